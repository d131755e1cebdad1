/- Steps for trees of nodes: type assertions, calls of several arguments, words held against each other. -/
import Derived.Test.YtanmpcgackfpaaaGreatM01
import Derived.Test.YtanmpcgackfpaaaGreatM02
import Derived.Test.YtanmpcgackfpaaaGreatM13
import Derived.Test.YtanmpcgackfpaaaGreatM14
import Derived.Test.YtanmpcgackfpaaaGreatM15
set_option linter.unusedVariables false
set_option linter.unusedSimpArgs false
namespace Go.Proofs.YtanmpcgackfpaaaGreat
section
open Go.RowKit
section
variable {ops : Array Oper} {md : Region.Mode} {Q : Exit → Act → World → Prop} {a : Act} {w : World} {o : Oper}
theorem qh0 {P : Program} {l0 : List Oper} {n : Nat} {K : Act → World → Prop} {f : FuncId} {ts : Array TypeId} {x1 x2 : Operand} {v1 v2 : Value} {R : Ending → World → Prop} (ho : l0[n]? = some o) (hw : Region.wanted o (yielded l0.toArray a.tmps) = true)
    (hop : o.op = .call { callee := .value (.func f), args := #[x1, x2], argTypes := ts }) (h1 : a.eval x1 = v1) (h2 : a.eval x2 = v2) (hf : ∀ args w, (callFunc f args).run P w = .ok (.enter f args) w)
    (hc : Calls P f #[v1, v2] w R) (h : ∀ e w', R e w' → ∃ v, e = .returned v ∧ K (a.put o.dst v) w') : wpOp P l0.toArray Q n K a w :=
  o_callR (by rw [List.getElem?_toArray]; exact ho) hw (by unfold execOp; simp [hop, resolve, invoke, h1, h2, hf, show a.eval (.func f) = .func (.func f) #[] #[] from rfl, Deferred.ofValue]) hc h
theorem qe2 {v : Value} {b j : Nat} (ty : TypeId) (x : Operand) (ho : o.op = .load ty x) (hx : a.eval x = .pointer (some ⟨b, j, none⟩)) (hl : w.cell? ⟨b, j, none⟩ = some v) (hu : ∀ w, (isAgg ty).run Tryz.prog w = .ok false w) :
    (execOp a.eval o).run Tryz.prog w = .ok (.value v) w := by
  unfold execOp
  simp only [ho, hx, Instr.loadAt, Instr.sureAddr, loadVar, Sem.run_bind, hu, Result.andThen_ok, Sem.run_pure, Bool.false_eq_true, if_false, run_load, hl]
theorem qf8 {p : Addr} (x : Operand) (ho : o.op = .nilCheck x) (hx : a.eval x = .pointer (some p)) : (execOp a.eval o).run Tryz.prog w = .ok (.value (.pointer (some p))) w := by
  unfold execOp; simp only [ho, hx]; rfl
end
def hz : Array Value := (bc 32 fun _ => 0).push .nilIface
theorem equal_any (va vb : Value) (a b : List Nat) (w : World) (ha : RdB w va a) (hb : RdB w vb b) : Calls Tryz.prog 77 #[va, vb] w fun e w' => e = .returned (.bool (a == b)) ∧ Tch [] w w' := by
  have c1 := conv_rd ha
  have c2 := conv_rd hb
  have he := strB_eq (a := a) (b := b) ha.choose_spec.choose_spec.2.2.1 hb.choose_spec.choose_spec.2.2.1
  obtain ⟨pa, n, ca, rfl⟩ : ∃ p n c, va = .slice p n c := ⟨_, _, _, ha.choose_spec.choose_spec.1⟩
  obtain ⟨pb, m, cb, rfl⟩ : ∃ p n c, vb = .slice p n c := ⟨_, _, _, hb.choose_spec.choose_spec.1⟩
  generalize strB a = sa at c1 he
  generalize strB b = sb at c2 he
  have HE := hQz he
  clear he ha hb
  go_enter Tryz.func77, Tryz.ntmps77
  go_wp2
  go_ret
  exact ⟨by rw [← HE.out]; rfl, Tch.refl _ _⟩
end
section
def emptyL : List Nat := [128]
def emptyH : List Nat := [86, 232, 31, 23, 27, 204, 85, 166, 255, 131, 69, 230, 146, 192, 248, 110, 91, 72, 224, 27, 153, 108, 173, 192, 1, 98, 47, 181, 227, 99, 180, 33]
theorem per_empty : perF 24 [384, 0, 0, 0, 0, 0, 0, 0, 0, 0, 0, 0, 0, 0, 0, 0, 9223372036854775808, 0, 0, 0, 0, 0, 0, 0, 0] = [11985710400040593494, 7996352875557389311, 13883872631106586715, 2428675928708047361, 8009521449391666938, 13377062685146247572, 9205169033692588957, 4257343883257824810, 8383144359197334823, 2885581488111880633, 9103848925177610390, 12394212369106831099, 17265513621861202425, 7895675855236150778, 16542592676313222267, 3790574131978657662, 8094560990692712504, 13647880811540030900, 7425679839650677910, 2878170972903059965, 14734313658079327778, 7052820394251810002, 17807322953142272636, 11132721222538226987, 6258665726687805247] := by decide +kernel
theorem hash_empty : ∀ i, i < 32 → hashN emptyL i = emptyH.getD i 0 := by
  have hA : Al (ofL [384, 0, 0, 0, 0, 0, 0, 0, 0, 0, 0, 0, 0, 0, 0, 0, 9223372036854775808, 0, 0, 0, 0, 0, 0, 0, 0]) (xorAt (xorAt (absL sp0 emptyL).A (absL sp0 emptyL).t 1) 135 128) := by
    unfold Al; decide +kernel
  have h := perF_is 24 (by decide) [384, 0, 0, 0, 0, 0, 0, 0, 0, 0, 0, 0, 0, 0, 0, 0, 9223372036854775808, 0, 0, 0, 0, 0, 0, 0, 0] (xorAt (xorAt (absL sp0 emptyL).A (absL sp0 emptyL).t 1) 135 128) hA
  rw [per_empty] at h
  intro i hi
  show permN _ (i / 8) / 2 ^ (8 * (i % 8)) % 256 = _
  have e := h (i / 8) (by omega)
  rw [← e]
  clear e h hA
  revert i
  decide +kernel
def dog0L : List Nat := [243, 128, 128, 128, 128, 128, 128, 222, 23, 220, 128, 128, 128, 128, 128, 128, 198, 53, 132, 99, 111, 105, 110, 128, 128, 128, 128, 128, 128, 128, 128, 128, 133, 112, 117, 112, 112, 121, 128, 128, 128, 128, 128, 128, 128, 128, 128, 132, 118, 101, 114, 98]
def dog0H : List Nat := [212, 59, 135, 253, 205, 66, 23, 1, 60, 204, 146, 208, 70, 98, 225, 45, 54, 228, 204, 37, 220, 105, 0, 119, 205, 130, 26, 25, 86, 252, 62, 54]
theorem per_dog0 : perF 24 [16032955962839040243, 9259542123273837591, 9254450211424843206, 9259542123273814144, 9259534357703782533, 9547772499425525888, 5946631542, 0, 0, 0, 0, 0, 0, 0, 0, 0, 9223372036854775808, 0, 0, 0, 0, 0, 0, 0, 0] = [78604970991500244, 3306031657753168956, 8574970084761330742, 3908838973322724045, 16765316289417682609, 12204518879262334070, 12542843990056249825, 14970043142230810372, 6723019423103258050, 2790862074299025508, 11718243490567429996, 15772184489183656796, 16024148110565005297, 13610945698948613158, 17022618708128272830, 6123894047113144701, 17236021324694586408, 9399601905407845563, 7443156170708135221, 14480599389002250543, 9790097616355986, 13947433883310175480, 9210535453091578208, 4383267383345954728, 5069553140845496853] := by decide +kernel
theorem hash_dog0 : ∀ i, i < 32 → hashN dog0L i = dog0H.getD i 0 := by
  have hA : Al (ofL [16032955962839040243, 9259542123273837591, 9254450211424843206, 9259542123273814144, 9259534357703782533, 9547772499425525888, 5946631542, 0, 0, 0, 0, 0, 0, 0, 0, 0, 9223372036854775808, 0, 0, 0, 0, 0, 0, 0, 0]) (xorAt (xorAt (absL sp0 dog0L).A (absL sp0 dog0L).t 1) 135 128) := by
    unfold Al; decide +kernel
  have h := perF_is 24 (by decide) [16032955962839040243, 9259542123273837591, 9254450211424843206, 9259542123273814144, 9259534357703782533, 9547772499425525888, 5946631542, 0, 0, 0, 0, 0, 0, 0, 0, 0, 9223372036854775808, 0, 0, 0, 0, 0, 0, 0, 0] (xorAt (xorAt (absL sp0 dog0L).A (absL sp0 dog0L).t 1) 135 128) hA
  rw [per_dog0] at h
  intro i hi
  show permN _ (i / 8) / 2 ^ (8 * (i % 8)) % 256 = _
  have e := h (i / 8) (by omega)
  rw [← e]
  clear e h hA
  revert i
  decide +kernel
def dog1L : List Nat := [228, 130, 0, 111, 160, 212, 59, 135, 253, 205, 66, 23, 1, 60, 204, 146, 208, 70, 98, 225, 45, 54, 228, 204, 37, 220, 105, 0, 119, 205, 130, 26, 25, 86, 252, 62, 54]
def dog1H : List Nat := [148, 169, 249, 91, 216, 150, 152, 228, 218, 24, 18, 224, 81, 128, 83, 129, 59, 77, 91, 135, 202, 175, 107, 60, 111, 165, 126, 158, 80, 192, 255, 104]
theorem per_dog1 : perF 24 [9744616004268360420, 10577895600169340413, 14763985049110070992, 1910315102950251557, 1332496586265, 0, 0, 0, 0, 0, 0, 0, 0, 0, 0, 0, 9223372036854775808, 0, 0, 0, 0, 0, 0, 0, 0] = [16472081493107779988, 9318933143099676890, 4353766749172878651, 7565977351494739311, 11614470025220252030, 6611095271691525131, 2227258955658254305, 9309230510548699121, 17311109741717685899, 12426984043401361182, 7577683591906772818, 380894298404732597, 1313306040671784966, 1612511106352038764, 16992715072578493833, 11255816856076373135, 16362185597509771907, 14527899599399050212, 9773599687622788447, 18395506449727451758, 12293092530589837631, 1666722436612171615, 14813056036066055018, 4316569625745424605, 1856646225646160849] := by decide +kernel
theorem hash_dog1 : ∀ i, i < 32 → hashN dog1L i = dog1H.getD i 0 := by
  have hA : Al (ofL [9744616004268360420, 10577895600169340413, 14763985049110070992, 1910315102950251557, 1332496586265, 0, 0, 0, 0, 0, 0, 0, 0, 0, 0, 0, 9223372036854775808, 0, 0, 0, 0, 0, 0, 0, 0]) (xorAt (xorAt (absL sp0 dog1L).A (absL sp0 dog1L).t 1) 135 128) := by
    unfold Al; decide +kernel
  have h := perF_is 24 (by decide) [9744616004268360420, 10577895600169340413, 14763985049110070992, 1910315102950251557, 1332496586265, 0, 0, 0, 0, 0, 0, 0, 0, 0, 0, 0, 9223372036854775808, 0, 0, 0, 0, 0, 0, 0, 0] (xorAt (xorAt (absL sp0 dog1L).A (absL sp0 dog1L).t 1) 135 128) hA
  rw [per_dog1] at h
  intro i hi
  show permN _ (i / 8) / 2 ^ (8 * (i % 8)) % 256 = _
  have e := h (i / 8) (by omega)
  rw [← e]
  clear e h hA
  revert i
  decide +kernel
def dog2L : List Nat := [248, 64, 128, 128, 128, 128, 160, 148, 169, 249, 91, 216, 150, 152, 228, 218, 24, 18, 224, 81, 128, 83, 129, 59, 77, 91, 135, 202, 175, 107, 60, 111, 165, 126, 158, 80, 192, 255, 104, 128, 128, 128, 207, 133, 32, 111, 114, 115, 101, 136, 115, 116, 97, 108, 108, 105, 111, 110, 128, 128, 128, 128, 128, 128, 128, 128]
def dog2H : List Nat := [189, 62, 229, 7, 230, 198, 124, 254, 252, 169, 143, 132, 190, 71, 193, 187, 192, 9, 49, 95, 171, 196, 64, 93, 180, 186, 50, 25, 3, 116, 87, 42]
theorem per_dog2 : perF 24 [10709701203287097592, 15772899568600742313, 4287800130827981336, 8015399839573957453, 9252926635884052133, 8318833647181332608, 7596565837288540261, 9259542123273809519, 98432, 0, 0, 0, 0, 0, 0, 0, 9223372036854775808, 0, 0, 0, 0, 0, 0, 0, 0] = [18337750474023059133, 13529173639191046652, 6719586884352281024, 3051034829223279284, 14296032688629421086, 10563837858346810037, 3544029324430312825, 6818258107643829700, 7014242117186848865, 13978987821467670990, 5078408024504672099, 15625291661951943873, 114734924602340707, 13667788305982228989, 17461163841644918093, 14597089466007724165, 11042824947725999033, 4047368499195475032, 13572274549304663817, 4172845694376425717, 1743773719853743212, 6604175177852459426, 18343293399914364325, 13919575404741833479, 10648725242783228296] := by decide +kernel
theorem hash_dog2 : ∀ i, i < 32 → hashN dog2L i = dog2H.getD i 0 := by
  have hA : Al (ofL [10709701203287097592, 15772899568600742313, 4287800130827981336, 8015399839573957453, 9252926635884052133, 8318833647181332608, 7596565837288540261, 9259542123273809519, 98432, 0, 0, 0, 0, 0, 0, 0, 9223372036854775808, 0, 0, 0, 0, 0, 0, 0, 0]) (xorAt (xorAt (absL sp0 dog2L).A (absL sp0 dog2L).t 1) 135 128) := by
    unfold Al; decide +kernel
  have h := perF_is 24 (by decide) [10709701203287097592, 15772899568600742313, 4287800130827981336, 8015399839573957453, 9252926635884052133, 8318833647181332608, 7596565837288540261, 9259542123273809519, 98432, 0, 0, 0, 0, 0, 0, 0, 9223372036854775808, 0, 0, 0, 0, 0, 0, 0, 0] (xorAt (xorAt (absL sp0 dog2L).A (absL sp0 dog2L).t 1) 135 128) hA
  rw [per_dog2] at h
  intro i hi
  show permN _ (i / 8) / 2 ^ (8 * (i % 8)) % 256 = _
  have e := h (i / 8) (by omega)
  rw [← e]
  clear e h hA
  revert i
  decide +kernel
def dogrootL : List Nat := [226, 22, 160, 189, 62, 229, 7, 230, 198, 124, 254, 252, 169, 143, 132, 190, 71, 193, 187, 192, 9, 49, 95, 171, 196, 64, 93, 180, 186, 50, 25, 3, 116, 87, 42]
def dogrootH : List Nat := [89, 145, 187, 140, 101, 20, 20, 138, 41, 219, 103, 106, 20, 172, 80, 108, 210, 205, 87, 117, 172, 230, 60, 48, 164, 254, 69, 119, 21, 233, 172, 132]
theorem per_dogroot : perF 24 [16575469011192518370, 13728255524388895942, 12348642621231186247, 223265434002866372, 19552116, 0, 0, 0, 0, 0, 0, 0, 0, 0, 0, 0, 9223372036854775808, 0, 0, 0, 0, 0, 0, 0, 0] = [9949599903153623385, 7804927357917584169, 3475906640800632274, 9560272387405381284, 15809356410648576804, 6505150002332480696, 9943322491761542745, 6165910962948983503, 268114540779072391, 9592279621816408249, 157246535278439114, 3514759586479257969, 4336618839320331871, 16555864055661522437, 8837784490893892235, 13599935749110207872, 18304989172932633492, 6416172790363442498, 14188200857240933350, 13829258739135075820, 366264137170578506, 4759884637875425742, 7086766191828840250, 15837002839143260859, 14327547693467460595] := by decide +kernel
theorem hash_dogroot : ∀ i, i < 32 → hashN dogrootL i = dogrootH.getD i 0 := by
  have hA : Al (ofL [16575469011192518370, 13728255524388895942, 12348642621231186247, 223265434002866372, 19552116, 0, 0, 0, 0, 0, 0, 0, 0, 0, 0, 0, 9223372036854775808, 0, 0, 0, 0, 0, 0, 0, 0]) (xorAt (xorAt (absL sp0 dogrootL).A (absL sp0 dogrootL).t 1) 135 128) := by
    unfold Al; decide +kernel
  have h := perF_is 24 (by decide) [16575469011192518370, 13728255524388895942, 12348642621231186247, 223265434002866372, 19552116, 0, 0, 0, 0, 0, 0, 0, 0, 0, 0, 0, 9223372036854775808, 0, 0, 0, 0, 0, 0, 0, 0] (xorAt (xorAt (absL sp0 dogrootL).A (absL sp0 dogrootL).t 1) 135 128) hA
  rw [per_dogroot] at h
  intro i hi
  show permN _ (i / 8) / 2 ^ (8 * (i % 8)) % 256 = _
  have e := h (i / 8) (by omega)
  rw [← e]
  clear e h hA
  revert i
  decide +kernel
end
section
open Go.RowKit
theorem build_none (p : Option Addr) (cap : Nat) (d : Int) (w : World) : Calls Tryz.prog 46 #[.slice p 0 cap, .int .i64 d] w fun e w' => e = .returned .nilIface ∧ w' = w := by
  go_enter Tryz.func46, Tryz.ntmps46
  go_wp2_with fail
  go_ret
  exact ⟨rfl, rfl⟩
theorem entry_info : (Tryz.prog.info? 137).map (fun i => (i.zero, i.size, i.bytes)) = some (some (.agg #[.slice none 0 0, .slice none 0 0]), 2, 48) := by kernel_rfl
theorem entries_ty : Tryz.prog.underlying 103 = some (.slice 137) := by kernel_rfl
theorem qc9 : (Tryz.prog.info? 101).bind (·.zero) = some (.agg #[.bool false, .slice none 0 0, .slice none 0 0]) := by kernel_rfl
theorem qa4 : (Tryz.prog.info? 101).map (·.size) = some 3 := by kernel_rfl
theorem qc4 (x : Bool) (p q : Option Addr) (n c m d : Nat) : (#[Value.bool x, .slice p n c, .slice q m d]).all (·.oneCell') = true := by simp [Value.oneCell']
def isSt (o : Option TypeDesc) : Bool := match o with | some (.struct _) => true | _ => false
theorem struct_of {o : Option TypeDesc} (h : isSt o = true) : ∃ d, o = some (.struct d) := by
  match o, h with
  | some (.struct d), _ => exact ⟨d, rfl⟩
theorem qg0 : ∃ d, Tryz.prog.underlying 101 = some (.struct d) := struct_of (by kernel_rfl)
set_option maxHeartbeats 1000000 in
theorem item_none (fv : Value) (w : World) : Calls Tryz.prog 50 #[.nilIface, fv] w fun e w' => e = .returned (.agg #[.bool false, .slice none 0 0, .slice none 0 0]) ∧ Tch [] w w' := by
  have hS := St.start w
  go_enter Tryz.func50, Tryz.ntmps50
  go_wp2_with (first
    | (refine qe3 hS rfl 101 rfl qc9 ?_; clear hS; intro w1 b1 hS)
    | (refine qe4 (b := b1) (c' := #[.bool false, .slice none 0 0, .slice none 0 0]) hS rfl 101 _ _ rfl rfl rfl .head qa4 rfl rfl (qc4 _ _ _ _ _ _ _) ?_; clear hS; intro w2 hS))
  obtain ⟨d, hd⟩ := qg0
  exact qf5 hS 4 101 rfl rfl rfl .head hd rfl qa4 rfl (fun hT => ⟨rfl, hT⟩)
end
section
open Go.RowKit
theorem st_buildV {ops : Array Oper} {rest : List Oper} {o : Oper} {a : Act} {bs : List Nat} {w0 w : World} {Q : Exit → Act → World → Prop} {L : List Ent} {n : Nat} {ty t : TypeId} {c : Array Value} {parts : Array (Nat × Operand)} (vals : Array (Nat × Value)) (hS : St bs w0 w L) (hgd : o.guard = none) (ho : o.op = .buildSlice ty n parts)
    (hv : (parts.map fun (i, x) => (i, a.eval x)) = vals) (hr : ∀ w : World, (Instr.buildSlice ty n vals).run Tryz.prog w = .ok (.slice (some ⟨w.heap.size, 0, none⟩) n n) (w.alloc (.cells c t)))
    (h : ∀ w' b, St bs w0 w' ((b, t, c) :: L) → wpList Tryz.prog ops Q rest (a.put o.dst (.slice (some ⟨b, 0, none⟩) n n)) w') : wpList Tryz.prog ops Q (o :: rest) a w :=
  wpList_plain hgd fun K hK => by
    subst hv
    have hr2 := hr w
    unfold Oper.wp execOp
    simp only [ho, Sem.run_bind, hr2, Result.andThen_ok, Sem.run_pure]
    exact hK _ _ (h _ _ (hS.new t c))
theorem buildB1 (p1 : Option Addr) (n1 c1 : Nat) (w : World) : (Instr.buildSlice 107 1 #[(0, .slice p1 n1 c1)]).run Tryz.prog w = .ok (.slice (some ⟨w.heap.size, 0, none⟩) 1 1) (w.alloc (.cells #[.slice p1 n1 c1] 23)) := by kernel_rfl
theorem packpost_ok {it : It} {w w' : World} {e : Ending} (h : dep it ≤ 32 ∧ (enc it).length ≤ 16777216) (hp : PackPost it w e w') : Tch [] w w' ∧ ∃ b, w.heap.size ≤ b ∧ e = .returned (.tuple #[.slice (some ⟨b, 0, none⟩) (enc it).length (enc it).length, .int .i64 0]) ∧ Blk w' b 5 (bc (enc it).length fun i => (enc it).getD i 0) := by
  unfold PackPost at hp; rwa [if_pos h] at hp
def PkV (l : List Nat) (w : World) (e : Ending) (w' : World) : Prop :=
  Tch [] w w' ∧ ∃ b, w.heap.size ≤ b ∧ e = .returned (.slice (some ⟨b, 0, none⟩) l.length l.length) ∧ Blk w' b 5 (bc l.length fun i => l.getD i 0)
set_option maxHeartbeats 1000000 in
theorem tpack_any (k : Nat) (x0 vb vl : Value) (it : It) (w : World) (hit : ItC [] w k x0 vb vl it) (h : dep it ≤ 32 ∧ (enc it).length ≤ 16777216) :
    Calls Tryz.prog 49 #[.agg #[x0, vb, vl]] w (PkV (enc it) w) := by
  have hS := St.start w
  obtain ⟨d, hd⟩ := qg0
  have hcall := fun (w1 : World) (hT : Tch [] w w1) => (pack_any k x0 vb vl it w1 (hit.tch hT)).mono fun e w' hp => packpost_ok h hp
  generalize enc it = L at hcall ⊢
  have HC := hQz hcall
  clear hcall hit h
  go_enter Tryz.func49, Tryz.ntmps49
  go_wp2_with (first
    | (refine qi0 hS rfl 101 _ rfl rfl ?_; clear hS; intro w1 b1 hS)
    | (refine st_load (b := b1) hS rfl 101 _ rfl rfl .head hd rfl qa4 rfl ?_)
    | (go_at_call 83; refine (HC.out _ hS.frame).mono ?_; rintro e w2 ⟨hT, b, hb, rfl, hB⟩))
  go_ret
  exact ⟨hS.frame.trans hT, b, Nat.le_trans hS.frame.size hb, rfl, hB⟩
theorem PkV.rd {l : List Nat} {w w' : World} {e : Ending} (h : PkV l w e w') (hl : ∀ x ∈ l, x < 256) : Tch [] w w' ∧ ∃ b, w.heap.size ≤ b ∧ e = .returned (.slice (some ⟨b, 0, none⟩) l.length l.length) ∧ RdB w' (.slice (some ⟨b, 0, none⟩) l.length l.length) l := by
  obtain ⟨h1, b, h2, h3, h4⟩ := h
  exact ⟨h1, b, h2, h3, (RdA.ofBlk (X := []) h4 hl (by simp)).rdB⟩
theorem rsum_any (v : Value) (l : List Nat) (w : World) (hv : RdB w v l) (hl : l.length < 1000000) :
    Calls Tryz.prog 23 #[v] w fun e w' => e = .returned (.agg (wf (hashN l))) ∧ Tch [] w w' := by
  have hS := St.start w
  obtain ⟨pa, n, ca, rfl⟩ : ∃ p n c, v = .slice p n c := ⟨_, _, _, hv.choose_spec.choose_spec.1⟩
  have HC := hQz (fun (w1 : World) (b : Nat) (hT : Tch [] w w1) (hB : Blk w1 b 23 #[.slice pa n ca]) => sum_one b _ l w1 (hB.cell (j := 0) rfl) hB.lt (hv.tch hT (by simp)) hl)
  clear hv hl
  go_enter Tryz.func23, Tryz.ntmps23
  go_wp2_with (first
    | (refine qe3 hS rfl 32 rfl qd5 ?_; clear hS; intro w1 b1 hS)
    | (refine st_buildV #[(0, .slice pa n ca)] hS rfl rfl (by simp only [List.map_toArray, List.map_cons, List.map_nil]; rfl) (buildB1 _ _ _) ?_; clear hS; intro w2 b2 hS)
    | (go_at_call 24; refine (HC.out _ _ hS.frame (hS.get .head)).mono ?_; rintro e w3 ⟨rfl, hT⟩; replace hS := hS.call hT; clear hT)
    | (refine qe4 (b := b1) (c' := wf (hashN l)) hS rfl 32 _ _ rfl rfl rfl (.tail .head) qb4 (qa5 _) (qa5 _) (qj1 _) ?_; clear hS; intro w4 hS))
  exact qf5 hS 2 32 rfl rfl rfl (.tail .head) qc7 rfl qb4 (qa5 _) (fun hT => ⟨rfl, hT⟩)
theorem enc_empty : enc (.str []) = [128] := by rw [qf4]; decide
end
end Go.Proofs.YtanmpcgackfpaaaGreat
