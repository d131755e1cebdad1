/- path.Pack of any path; path.Read. -/
import Derived.Test.YtgdojomaknbheaaP8
import Derived.Test.YtgdojomaknbheaaP8l
import Derived.Test.YtgdojomaknbheaaP9
import Derived.Test.YtgdojomaknbheaaP9l
namespace Go.Proofs.Ytgdojomaknbheaa
open Go.RowKit

theorem Pack_any (v : Value) (l : List Nat) (leaf : Bool) (w : World) (hm : l.length ≤ 100000) (hv : RdA [] w v l) :
    Calls Try.prog 10 #[v, .bool leaf] w (OptPost w (packL l leaf)) := by
  rcases Nat.mod_two_eq_zero_or_one l.length with hp | hp
  · by_cases h0 : l = []
    · subst h0
      cases leaf
      · exact pack_even_n_z_C v w hm hv
      · exact pack_even_l_z_C v w hm hv
    · cases leaf <;> cases ha : allN l
      · exact pack_even_n_m_B v l w hm hv hp h0 ha
      · exact pack_even_n_m_C v l w hm hv hp h0 ha
      · exact pack_even_l_m_B v l w hm hv hp h0 ha
      · exact pack_even_l_m_C v l w hm hv hp h0 ha
  · match l, hp with
    | x :: q, hp =>
      have hq : q.length % 2 = 0 := by simp only [List.length_cons] at hp; omega
      by_cases h0 : q = []
      · subst h0
        rcases Nat.lt_or_ge x 16 with hx | hx
        · cases leaf
          · exact pack_odd_n_z_C v x w hm hv hx
          · exact pack_odd_l_z_C v x w hm hv hx
        · cases leaf
          · exact pack_odd_n_z_A v x w hm hv hx
          · exact pack_odd_l_z_A v x w hm hv hx
      · rcases Nat.lt_or_ge x 16 with hx | hx
        · cases leaf <;> cases ha : allN q
          · exact pack_odd_n_m_B v x q w hm hv hq h0 hx ha
          · exact pack_odd_n_m_C v x q w hm hv hq h0 hx ha
          · exact pack_odd_l_m_B v x q w hm hv hq h0 hx ha
          · exact pack_odd_l_m_C v x q w hm hv hq h0 hx ha
        · cases leaf
          · exact pack_odd_n_m_A v x q w hm hv hq h0 hx
          · exact pack_odd_l_m_A v x q w hm hv hq h0 hx
end Go.Proofs.Ytgdojomaknbheaa
