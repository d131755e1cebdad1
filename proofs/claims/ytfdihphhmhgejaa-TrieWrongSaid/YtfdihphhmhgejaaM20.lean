/- Steps for trees of nodes: type assertions, calls of several arguments, words held against each other. -/
import Derived.Test.YtfdihphhmhgejaaM18
import Derived.Test.YtfdihphhmhgejaaM17
import Derived.Test.YtfdihphhmhgejaaM19
import Derived.Test.YtfdihphhmhgejaaM02
import Derived.Test.YtfdihphhmhgejaaM03
set_option linter.unusedVariables false
set_option linter.unusedSimpArgs false
namespace Go.Proofs.Ytfdihphhmhgejaa
open Go.RowKit

section
variable {ops : Array Oper} {md : Region.Mode} {Q : Exit → Act → World → Prop} {a : Act} {w : World} {o : Oper}
theorem held_call2 {P : Program} {l0 : List Oper} {n : Nat} {K : Act → World → Prop} {f : FuncId} {ts : Array TypeId} {x1 x2 : Operand} {v1 v2 : Value} {R : Ending → World → Prop} (ho : l0[n]? = some o) (hw : Region.wanted o (yielded l0.toArray a.tmps) = true)
    (hop : o.op = .call { callee := .value (.func f), args := #[x1, x2], argTypes := ts }) (h1 : a.eval x1 = v1) (h2 : a.eval x2 = v2) (hf : ∀ args w, (callFunc f args).run P w = .ok (.enter f args) w)
    (hc : Calls P f #[v1, v2] w R) (h : ∀ e w', R e w' → ∃ v, e = .returned v ∧ K (a.put o.dst v) w') : wpOp P l0.toArray Q n K a w :=
  o_callR (by rw [List.getElem?_toArray]; exact ho) hw (by unfold execOp; simp [hop, resolve, invoke, h1, h2, hf, show a.eval (.func f) = .func (.func f) #[] #[] from rfl, Deferred.ofValue]) hc h
theorem held_call4 {P : Program} {l0 : List Oper} {n : Nat} {K : Act → World → Prop} {f : FuncId} {ts : Array TypeId} {x1 x2 x3 x4 : Operand} {v1 v2 v3 v4 : Value} {R : Ending → World → Prop} (ho : l0[n]? = some o) (hw : Region.wanted o (yielded l0.toArray a.tmps) = true)
    (hop : o.op = .call { callee := .value (.func f), args := #[x1, x2, x3, x4], argTypes := ts }) (h1 : a.eval x1 = v1) (h2 : a.eval x2 = v2) (h3 : a.eval x3 = v3) (h4 : a.eval x4 = v4) (hf : ∀ args w, (callFunc f args).run P w = .ok (.enter f args) w)
    (hc : Calls P f #[v1, v2, v3, v4] w R) (h : ∀ e w', R e w' → ∃ v, e = .returned v ∧ K (a.put o.dst v) w') : wpOp P l0.toArray Q n K a w :=
  o_callR (by rw [List.getElem?_toArray]; exact ho) hw (by unfold execOp; simp [hop, resolve, invoke, h1, h2, h3, h4, hf, show a.eval (.func f) = .func (.func f) #[] #[] from rfl, Deferred.ofValue]) hc h
theorem held_call0 {P : Program} {l0 : List Oper} {n : Nat} {K : Act → World → Prop} {f : FuncId} {ts : Array TypeId} {R : Ending → World → Prop} (ho : l0[n]? = some o) (hw : Region.wanted o (yielded l0.toArray a.tmps) = true)
    (hop : o.op = .call { callee := .value (.func f), args := #[], argTypes := ts }) (hf : ∀ args w, (callFunc f args).run P w = .ok (.enter f args) w)
    (hc : Calls P f #[] w R) (h : ∀ e w', R e w' → ∃ v, e = .returned v ∧ K (a.put o.dst v) w') : wpOp P l0.toArray Q n K a w :=
  o_callR (by rw [List.getElem?_toArray]; exact ho) hw (by unfold execOp; simp [hop, resolve, invoke, hf, show a.eval (.func f) = .func (.func f) #[] #[] from rfl, Deferred.ofValue]) hc h
/-- One cell, as it stands in every world of the class. -/
theorem x_cell {v : Value} {b j : Nat} (ty : TypeId) (x : Operand) (ho : o.op = .load ty x) (hx : a.eval x = .pointer (some ⟨b, j, none⟩)) (hl : w.cell? ⟨b, j, none⟩ = some v) (hu : ∀ w, (isAgg ty).run Try.prog w = .ok false w) :
    (execOp a.eval o).run Try.prog w = .ok (.value v) w := by
  unfold execOp
  simp only [ho, hx, Instr.loadAt, Instr.sureAddr, loadVar, Sem.run_bind, hu, Result.andThen_ok, Sem.run_pure, Bool.false_eq_true, if_false, run_load, hl]
theorem x_nilck {p : Addr} (x : Operand) (ho : o.op = .nilCheck x) (hx : a.eval x = .pointer (some p)) : (execOp a.eval o).run Try.prog w = .ok (.value (.pointer (some p))) w := by
  unfold execOp; simp only [ho, hx]; rfl
theorem x_extract {v : Value} {vs : Array Value} (x : Operand) (i : Nat) (ho : o.op = .extract x i) (hx : a.eval x = .tuple vs) (hv : vs[i]? = some v) : (execOp a.eval o).run Try.prog w = .ok (.value v) w := by
  unfold execOp; simp [ho, hx, Instr.extract, hv]
end
/-- The zero value of a hash that was not looked at. -/
def hz : Array Value := (bc 32 fun _ => 0).push .nilIface
theorem hz_len : hz.size = 33 := by kernel_rfl
theorem hz_one : hz.all (·.oneCell') = true := by kernel_rfl
/-- bytes.Equal. -/
theorem equal_any (va vb : Value) (a b : List Nat) (w : World) (ha : RdB w va a) (hb : RdB w vb b) : Calls Try.prog 49 #[va, vb] w fun e w' => e = .returned (.bool (a == b)) ∧ Tch [] w w' := by
  have c1 := conv_rd ha
  have c2 := conv_rd hb
  have he := strB_eq (a := a) (b := b) ha.choose_spec.choose_spec.2.2.1 hb.choose_spec.choose_spec.2.2.1
  obtain ⟨pa, n, ca, rfl⟩ : ∃ p n c, va = .slice p n c := ⟨_, _, _, ha.choose_spec.choose_spec.1⟩
  obtain ⟨pb, m, cb, rfl⟩ : ∃ p n c, vb = .slice p n c := ⟨_, _, _, hb.choose_spec.choose_spec.1⟩
  generalize strB a = sa at c1 he
  generalize strB b = sb at c2 he
  have HE := Lib.hid he
  clear he ha hb
  go_enter Try.func49, Try.ntmps49
  go_wp2
  go_ret
  exact ⟨by rw [← HE.out]; rfl, Tch.refl _ _⟩
end Go.Proofs.Ytfdihphhmhgejaa

/- Hashes that the example of the tries wants, reckoned by the kernel. No function of the program. -/
namespace Go.Proofs.Ytfdihphhmhgejaa

def emptyL : List Nat := [128]
def emptyH : List Nat := [86, 232, 31, 23, 27, 204, 85, 166, 255, 131, 69, 230, 146, 192, 248, 110, 91, 72, 224, 27, 153, 108, 173, 192, 1, 98, 47, 181, 227, 99, 180, 33]
theorem per_empty : perF 24 [384, 0, 0, 0, 0, 0, 0, 0, 0, 0, 0, 0, 0, 0, 0, 0, 9223372036854775808, 0, 0, 0, 0, 0, 0, 0, 0] = [11985710400040593494, 7996352875557389311, 13883872631106586715, 2428675928708047361, 8009521449391666938, 13377062685146247572, 9205169033692588957, 4257343883257824810, 8383144359197334823, 2885581488111880633, 9103848925177610390, 12394212369106831099, 17265513621861202425, 7895675855236150778, 16542592676313222267, 3790574131978657662, 8094560990692712504, 13647880811540030900, 7425679839650677910, 2878170972903059965, 14734313658079327778, 7052820394251810002, 17807322953142272636, 11132721222538226987, 6258665726687805247] := by decide +kernel
theorem hash_empty : ∀ i, i < 32 → hashN emptyL i = emptyH.getD i 0 := by
  have hA : Al (ofL [384, 0, 0, 0, 0, 0, 0, 0, 0, 0, 0, 0, 0, 0, 0, 0, 9223372036854775808, 0, 0, 0, 0, 0, 0, 0, 0]) (xorAt (xorAt (absL sp0 emptyL).A (absL sp0 emptyL).t 1) 135 128) := by
    unfold Al; decide +kernel
  have h := perF_is 24 (by decide) [384, 0, 0, 0, 0, 0, 0, 0, 0, 0, 0, 0, 0, 0, 0, 0, 9223372036854775808, 0, 0, 0, 0, 0, 0, 0, 0] (xorAt (xorAt (absL sp0 emptyL).A (absL sp0 emptyL).t 1) 135 128) hA
  rw [per_empty] at h
  intro i hi
  show permN _ (i / 8) / 2 ^ (8 * (i % 8)) % 256 = _
  have e := h (i / 8) (by omega)
  rw [← e]
  clear e h hA
  revert i
  decide +kernel

def dog0L : List Nat := [243, 128, 128, 128, 128, 128, 128, 222, 23, 220, 128, 128, 128, 128, 128, 128, 198, 53, 132, 99, 111, 105, 110, 128, 128, 128, 128, 128, 128, 128, 128, 128, 133, 112, 117, 112, 112, 121, 128, 128, 128, 128, 128, 128, 128, 128, 128, 132, 118, 101, 114, 98]
def dog0H : List Nat := [212, 59, 135, 253, 205, 66, 23, 1, 60, 204, 146, 208, 70, 98, 225, 45, 54, 228, 204, 37, 220, 105, 0, 119, 205, 130, 26, 25, 86, 252, 62, 54]
theorem per_dog0 : perF 24 [16032955962839040243, 9259542123273837591, 9254450211424843206, 9259542123273814144, 9259534357703782533, 9547772499425525888, 5946631542, 0, 0, 0, 0, 0, 0, 0, 0, 0, 9223372036854775808, 0, 0, 0, 0, 0, 0, 0, 0] = [78604970991500244, 3306031657753168956, 8574970084761330742, 3908838973322724045, 16765316289417682609, 12204518879262334070, 12542843990056249825, 14970043142230810372, 6723019423103258050, 2790862074299025508, 11718243490567429996, 15772184489183656796, 16024148110565005297, 13610945698948613158, 17022618708128272830, 6123894047113144701, 17236021324694586408, 9399601905407845563, 7443156170708135221, 14480599389002250543, 9790097616355986, 13947433883310175480, 9210535453091578208, 4383267383345954728, 5069553140845496853] := by decide +kernel
theorem hash_dog0 : ∀ i, i < 32 → hashN dog0L i = dog0H.getD i 0 := by
  have hA : Al (ofL [16032955962839040243, 9259542123273837591, 9254450211424843206, 9259542123273814144, 9259534357703782533, 9547772499425525888, 5946631542, 0, 0, 0, 0, 0, 0, 0, 0, 0, 9223372036854775808, 0, 0, 0, 0, 0, 0, 0, 0]) (xorAt (xorAt (absL sp0 dog0L).A (absL sp0 dog0L).t 1) 135 128) := by
    unfold Al; decide +kernel
  have h := perF_is 24 (by decide) [16032955962839040243, 9259542123273837591, 9254450211424843206, 9259542123273814144, 9259534357703782533, 9547772499425525888, 5946631542, 0, 0, 0, 0, 0, 0, 0, 0, 0, 9223372036854775808, 0, 0, 0, 0, 0, 0, 0, 0] (xorAt (xorAt (absL sp0 dog0L).A (absL sp0 dog0L).t 1) 135 128) hA
  rw [per_dog0] at h
  intro i hi
  show permN _ (i / 8) / 2 ^ (8 * (i % 8)) % 256 = _
  have e := h (i / 8) (by omega)
  rw [← e]
  clear e h hA
  revert i
  decide +kernel

def dog1L : List Nat := [228, 130, 0, 111, 160, 212, 59, 135, 253, 205, 66, 23, 1, 60, 204, 146, 208, 70, 98, 225, 45, 54, 228, 204, 37, 220, 105, 0, 119, 205, 130, 26, 25, 86, 252, 62, 54]
def dog1H : List Nat := [148, 169, 249, 91, 216, 150, 152, 228, 218, 24, 18, 224, 81, 128, 83, 129, 59, 77, 91, 135, 202, 175, 107, 60, 111, 165, 126, 158, 80, 192, 255, 104]
theorem per_dog1 : perF 24 [9744616004268360420, 10577895600169340413, 14763985049110070992, 1910315102950251557, 1332496586265, 0, 0, 0, 0, 0, 0, 0, 0, 0, 0, 0, 9223372036854775808, 0, 0, 0, 0, 0, 0, 0, 0] = [16472081493107779988, 9318933143099676890, 4353766749172878651, 7565977351494739311, 11614470025220252030, 6611095271691525131, 2227258955658254305, 9309230510548699121, 17311109741717685899, 12426984043401361182, 7577683591906772818, 380894298404732597, 1313306040671784966, 1612511106352038764, 16992715072578493833, 11255816856076373135, 16362185597509771907, 14527899599399050212, 9773599687622788447, 18395506449727451758, 12293092530589837631, 1666722436612171615, 14813056036066055018, 4316569625745424605, 1856646225646160849] := by decide +kernel
theorem hash_dog1 : ∀ i, i < 32 → hashN dog1L i = dog1H.getD i 0 := by
  have hA : Al (ofL [9744616004268360420, 10577895600169340413, 14763985049110070992, 1910315102950251557, 1332496586265, 0, 0, 0, 0, 0, 0, 0, 0, 0, 0, 0, 9223372036854775808, 0, 0, 0, 0, 0, 0, 0, 0]) (xorAt (xorAt (absL sp0 dog1L).A (absL sp0 dog1L).t 1) 135 128) := by
    unfold Al; decide +kernel
  have h := perF_is 24 (by decide) [9744616004268360420, 10577895600169340413, 14763985049110070992, 1910315102950251557, 1332496586265, 0, 0, 0, 0, 0, 0, 0, 0, 0, 0, 0, 9223372036854775808, 0, 0, 0, 0, 0, 0, 0, 0] (xorAt (xorAt (absL sp0 dog1L).A (absL sp0 dog1L).t 1) 135 128) hA
  rw [per_dog1] at h
  intro i hi
  show permN _ (i / 8) / 2 ^ (8 * (i % 8)) % 256 = _
  have e := h (i / 8) (by omega)
  rw [← e]
  clear e h hA
  revert i
  decide +kernel

def dog2L : List Nat := [248, 64, 128, 128, 128, 128, 160, 148, 169, 249, 91, 216, 150, 152, 228, 218, 24, 18, 224, 81, 128, 83, 129, 59, 77, 91, 135, 202, 175, 107, 60, 111, 165, 126, 158, 80, 192, 255, 104, 128, 128, 128, 207, 133, 32, 111, 114, 115, 101, 136, 115, 116, 97, 108, 108, 105, 111, 110, 128, 128, 128, 128, 128, 128, 128, 128]
def dog2H : List Nat := [189, 62, 229, 7, 230, 198, 124, 254, 252, 169, 143, 132, 190, 71, 193, 187, 192, 9, 49, 95, 171, 196, 64, 93, 180, 186, 50, 25, 3, 116, 87, 42]
theorem per_dog2 : perF 24 [10709701203287097592, 15772899568600742313, 4287800130827981336, 8015399839573957453, 9252926635884052133, 8318833647181332608, 7596565837288540261, 9259542123273809519, 98432, 0, 0, 0, 0, 0, 0, 0, 9223372036854775808, 0, 0, 0, 0, 0, 0, 0, 0] = [18337750474023059133, 13529173639191046652, 6719586884352281024, 3051034829223279284, 14296032688629421086, 10563837858346810037, 3544029324430312825, 6818258107643829700, 7014242117186848865, 13978987821467670990, 5078408024504672099, 15625291661951943873, 114734924602340707, 13667788305982228989, 17461163841644918093, 14597089466007724165, 11042824947725999033, 4047368499195475032, 13572274549304663817, 4172845694376425717, 1743773719853743212, 6604175177852459426, 18343293399914364325, 13919575404741833479, 10648725242783228296] := by decide +kernel
theorem hash_dog2 : ∀ i, i < 32 → hashN dog2L i = dog2H.getD i 0 := by
  have hA : Al (ofL [10709701203287097592, 15772899568600742313, 4287800130827981336, 8015399839573957453, 9252926635884052133, 8318833647181332608, 7596565837288540261, 9259542123273809519, 98432, 0, 0, 0, 0, 0, 0, 0, 9223372036854775808, 0, 0, 0, 0, 0, 0, 0, 0]) (xorAt (xorAt (absL sp0 dog2L).A (absL sp0 dog2L).t 1) 135 128) := by
    unfold Al; decide +kernel
  have h := perF_is 24 (by decide) [10709701203287097592, 15772899568600742313, 4287800130827981336, 8015399839573957453, 9252926635884052133, 8318833647181332608, 7596565837288540261, 9259542123273809519, 98432, 0, 0, 0, 0, 0, 0, 0, 9223372036854775808, 0, 0, 0, 0, 0, 0, 0, 0] (xorAt (xorAt (absL sp0 dog2L).A (absL sp0 dog2L).t 1) 135 128) hA
  rw [per_dog2] at h
  intro i hi
  show permN _ (i / 8) / 2 ^ (8 * (i % 8)) % 256 = _
  have e := h (i / 8) (by omega)
  rw [← e]
  clear e h hA
  revert i
  decide +kernel

def dogrootL : List Nat := [226, 22, 160, 189, 62, 229, 7, 230, 198, 124, 254, 252, 169, 143, 132, 190, 71, 193, 187, 192, 9, 49, 95, 171, 196, 64, 93, 180, 186, 50, 25, 3, 116, 87, 42]
def dogrootH : List Nat := [89, 145, 187, 140, 101, 20, 20, 138, 41, 219, 103, 106, 20, 172, 80, 108, 210, 205, 87, 117, 172, 230, 60, 48, 164, 254, 69, 119, 21, 233, 172, 132]
theorem per_dogroot : perF 24 [16575469011192518370, 13728255524388895942, 12348642621231186247, 223265434002866372, 19552116, 0, 0, 0, 0, 0, 0, 0, 0, 0, 0, 0, 9223372036854775808, 0, 0, 0, 0, 0, 0, 0, 0] = [9949599903153623385, 7804927357917584169, 3475906640800632274, 9560272387405381284, 15809356410648576804, 6505150002332480696, 9943322491761542745, 6165910962948983503, 268114540779072391, 9592279621816408249, 157246535278439114, 3514759586479257969, 4336618839320331871, 16555864055661522437, 8837784490893892235, 13599935749110207872, 18304989172932633492, 6416172790363442498, 14188200857240933350, 13829258739135075820, 366264137170578506, 4759884637875425742, 7086766191828840250, 15837002839143260859, 14327547693467460595] := by decide +kernel
theorem hash_dogroot : ∀ i, i < 32 → hashN dogrootL i = dogrootH.getD i 0 := by
  have hA : Al (ofL [16575469011192518370, 13728255524388895942, 12348642621231186247, 223265434002866372, 19552116, 0, 0, 0, 0, 0, 0, 0, 0, 0, 0, 0, 9223372036854775808, 0, 0, 0, 0, 0, 0, 0, 0]) (xorAt (xorAt (absL sp0 dogrootL).A (absL sp0 dogrootL).t 1) 135 128) := by
    unfold Al; decide +kernel
  have h := perF_is 24 (by decide) [16575469011192518370, 13728255524388895942, 12348642621231186247, 223265434002866372, 19552116, 0, 0, 0, 0, 0, 0, 0, 0, 0, 0, 0, 9223372036854775808, 0, 0, 0, 0, 0, 0, 0, 0] (xorAt (xorAt (absL sp0 dogrootL).A (absL sp0 dogrootL).t 1) 135 128) hA
  rw [per_dogroot] at h
  intro i hi
  show permN _ (i / 8) / 2 ^ (8 * (i % 8)) % 256 = _
  have e := h (i / 8) (by omega)
  rw [← e]
  clear e h hA
  revert i
  decide +kernel

end Go.Proofs.Ytfdihphhmhgejaa

/- The root of no pairs. -/
namespace Go.Proofs.Ytfdihphhmhgejaa
open Go.RowKit

set_option maxHeartbeats 2000000 in
theorem ins_none (p : Option Addr) (cap : Nat) (fv : Value) (w : World) :
    Calls Try.prog 84 #[.slice p 0 cap, .int .i64 0, .int .i64 0, fv] w fun e w' => e = .returned (.tuple #[]) ∧ w' = w := by
  go_enter Try.func84, Try.ntmps84
  go_wp2
  refine wp_loop_rounds 1 ?_
  rw [rounds_succ]
  go_wp2
  go_end0
  exact ⟨rfl, rfl⟩
set_option maxHeartbeats 2000000 in
theorem pdq_none (p : Option Addr) (cap : Nat) (lim : Int) (fv : Value) (w : World) :
    Calls Try.prog 72 #[.slice p 0 cap, .int .i64 0, .int .i64 0, .int .i64 lim, fv] w fun e w' => e = .returned (.tuple #[]) ∧ w' = w := by
  go_enter Try.func72, Try.ntmps72
  go_wp2
  refine wp_loop_rounds 1 ?_
  rw [rounds_succ]
  go_wp2_with (go_at_call 84; refine (ins_none _ _ _ _).mono ?_; rintro e w' ⟨rfl, rfl⟩)
  (try simp only [Exit.inBlock, Exit.then]); refine bodyPost_ret (results_none rfl _ _ _) rfl ?_
  exact ⟨rfl, rfl⟩
set_option maxHeartbeats 2000000 in
theorem sortE_none (p : Option Addr) (cap : Nat) (fv : Value) (w : World) :
    Calls Try.prog 45 #[.slice p 0 cap, fv] w fun e w' => e = .returned (.tuple #[]) ∧ w' = w := by
  have hl := fun W => len_any 0 W (by decide)
  rw [show ((0 : Nat) : Int) = 0 from rfl] at hl
  go_enter Try.func45, Try.ntmps45
  go_wp2_with (first
    | (go_at_call 40; refine (hl _).mono ?_; rintro e w' ⟨rfl, rfl⟩)
    | (go_at_call 72; refine (pdq_none _ _ _ _ _).mono ?_; rintro e w' ⟨rfl, rfl⟩))
  go_end0
  exact ⟨rfl, rfl⟩
theorem idxP_none (p : Option Addr) (cap : Nat) (fv : Value) (w : World) :
    Calls Try.prog 70 #[.slice p 0 cap, fv] w fun e w' => e = .returned (.int .i64 (-1)) ∧ w' = w := by
  go_enter Try.func70, Try.ntmps70
  go_wp2
  refine wp_loop_rounds 1 ?_
  rw [rounds_succ]
  go_wp2
  go_ret
  exact ⟨rfl, rfl⟩
theorem idxE_none (p : Option Addr) (cap : Nat) (fv : Value) (w : World) :
    Calls Try.prog 73 #[.slice p 0 cap, fv] w fun e w' => e = .returned (.int .i64 (-1)) ∧ w' = w := by
  go_enter Try.func73, Try.ntmps73
  go_wp2
  refine wp_loop_rounds 1 ?_
  rw [rounds_succ]
  go_wp2
  go_ret
  exact ⟨rfl, rfl⟩
theorem hasP_none (p : Option Addr) (cap : Nat) (fv : Value) (w : World) :
    Calls Try.prog 42 #[.slice p 0 cap, fv] w fun e w' => e = .returned (.bool false) ∧ w' = w := by
  go_enter Try.func42, Try.ntmps42
  go_wp2_with (go_at_call 70; refine (idxP_none _ _ _ _).mono ?_; rintro e w' ⟨rfl, rfl⟩)
  go_ret
  exact ⟨rfl, rfl⟩
theorem hasE_none (p : Option Addr) (cap : Nat) (fv : Value) (w : World) :
    Calls Try.prog 47 #[.slice p 0 cap, fv] w fun e w' => e = .returned (.bool false) ∧ w' = w := by
  go_enter Try.func47, Try.ntmps47
  go_wp2_with (go_at_call 73; refine (idxE_none _ _ _ _).mono ?_; rintro e w' ⟨rfl, rfl⟩)
  go_ret
  exact ⟨rfl, rfl⟩
theorem tooLong_none (w : World) : Calls Try.prog 29 #[.slice none 0 0] w fun e w' => e = .returned (.bool false) ∧ w' = w := by
  go_enter Try.func29, Try.ntmps29
  go_wp2_with (go_at_call 42; refine (hasP_none _ _ _ _).mono ?_; rintro e w' ⟨rfl, rfl⟩)
  go_ret
  exact ⟨rfl, rfl⟩
theorem hasEmpty_none (p : Option Addr) (cap : Nat) (w : World) : Calls Try.prog 31 #[.slice p 0 cap] w fun e w' => e = .returned (.bool false) ∧ w' = w := by
  go_enter Try.func31, Try.ntmps31
  go_wp2_with (go_at_call 47; refine (hasE_none _ _ _ _).mono ?_; rintro e w' ⟨rfl, rfl⟩)
  go_ret
  exact ⟨rfl, rfl⟩
theorem hasTwice_none (p : Option Addr) (cap : Nat) (w : World) : Calls Try.prog 32 #[.slice p 0 cap] w fun e w' => e = .returned (.bool false) ∧ w' = w := by
  go_enter Try.func32, Try.ntmps32
  go_wp2
  refine wp_loop_rounds 1 ?_
  rw [rounds_succ]
  go_wp2
  go_ret
  exact ⟨rfl, rfl⟩
theorem build_none (p : Option Addr) (cap : Nat) (d : Int) (w : World) : Calls Try.prog 33 #[.slice p 0 cap, .int .i64 d] w fun e w' => e = .returned .nilIface ∧ w' = w := by
  go_enter Try.func33, Try.ntmps33
  go_wp2_with fail
  go_ret
  exact ⟨rfl, rfl⟩
theorem entry_info : (Try.prog.info? 93).map (fun i => (i.zero, i.size, i.bytes)) = some (some (.agg #[.slice none 0 0, .slice none 0 0]), 2, 48) := by kernel_rfl
theorem entries_ty : Try.prog.underlying 72 = some (.slice 93) := by kernel_rfl
set_option maxHeartbeats 2000000 in
theorem sorted_none (w : World) : Calls Try.prog 30 #[.slice none 0 0] w fun e w' => (∃ p, e = .returned (.slice p 0 0)) ∧ Tch [] w w' := by
  obtain ⟨i, hi, hz, hs, hb⟩ := info_parts entry_info
  have hr := run_makeSlice (P := Try.prog) w 72 93 i _ entries_ty hi hz .i64 .i64 0 0 (by omega) (by omega) (by rw [hs]; simp) (by rw [hb]; simp) (by omega)
  rw [hs] at hr
  simp only [Int.toNat_zero, Nat.zero_mul] at hr
  go_enter Try.func30, Try.ntmps30
  go_wp2
  refine wp_loop_rounds 1 ?_
  rw [rounds_succ]
  go_wp2_with (go_at_call 45; refine (sortE_none _ _ _ _).mono ?_; rintro e w' ⟨rfl, rfl⟩)
  go_ret
  exact ⟨⟨_, rfl⟩, (Tch.refl _ _).alloc _⟩
theorem grow_none (w : World) : Calls Try.prog 17 #[.slice none 0 0] w fun e w' => e = .returned (.tuple #[.nilIface, .int .i64 0]) ∧ Tch [] w w' := by
  go_enter Try.func17, Try.ntmps17
  go_wp2_with (first
    | (go_at_call 29; refine (tooLong_none _).mono ?_; rintro e w' ⟨rfl, rfl⟩)
    | (go_at_call 30; refine (sorted_none _).mono ?_; rintro e w1 ⟨⟨p, rfl⟩, hT⟩)
    | (go_at_call 31; refine (hasEmpty_none _ _ _).mono ?_; rintro e w' ⟨rfl, rfl⟩)
    | (go_at_call 32; refine (hasTwice_none _ _ _).mono ?_; rintro e w' ⟨rfl, rfl⟩)
    | (go_at_call 33; refine (build_none _ _ _ _).mono ?_; rintro e w' ⟨rfl, rfl⟩))
  go_ret2
  exact ⟨rfl, hT⟩
theorem item_zero : (Try.prog.info? 27).bind (·.zero) = some (.agg #[.bool false, .slice none 0 0, .slice none 0 0]) := by kernel_rfl
theorem item_sizeT : (Try.prog.info? 27).map (·.size) = some 3 := by kernel_rfl
theorem item3_one (x : Bool) (p q : Option Addr) (n c m d : Nat) : (#[Value.bool x, .slice p n c, .slice q m d]).all (·.oneCell') = true := by simp [Value.oneCell']
def isSt (o : Option TypeDesc) : Bool := match o with | some (.struct _) => true | _ => false
theorem struct_of {o : Option TypeDesc} (h : isSt o = true) : ∃ d, o = some (.struct d) := by
  match o, h with
  | some (.struct d), _ => exact ⟨d, rfl⟩
theorem item_tyS : ∃ d, Try.prog.underlying 27 = some (.struct d) := struct_of (by kernel_rfl)
set_option maxHeartbeats 1000000 in
theorem item_none (fv : Value) (w : World) : Calls Try.prog 37 #[.nilIface, fv] w fun e w' => e = .returned (.agg #[.bool false, .slice none 0 0, .slice none 0 0]) ∧ Tch [] w w' := by
  have hS := St.start w
  go_enter Try.func37, Try.ntmps37
  go_wp2_with (first
    | (refine st_new hS rfl 27 rfl item_zero ?_; clear hS; intro w1 b1 hS)
    | (refine st_store (b := b1) (c' := #[.bool false, .slice none 0 0, .slice none 0 0]) hS rfl 27 _ _ rfl rfl rfl .head item_sizeT rfl rfl (item3_one _ _ _ _ _ _ _) ?_; clear hS; intro w2 hS))
  obtain ⟨d, hd⟩ := item_tyS
  exact st_post hS 4 27 rfl rfl rfl .head hd rfl item_sizeT rfl (fun hT => ⟨rfl, hT⟩)
end Go.Proofs.Ytfdihphhmhgejaa
