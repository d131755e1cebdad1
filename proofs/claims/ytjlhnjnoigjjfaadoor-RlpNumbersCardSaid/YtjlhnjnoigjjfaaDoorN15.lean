/- rlp.Int and the document's IntOf, whole. -/
import Derived.Test.YtjlhnjnoigjjfaaDoorN14
namespace Go.Proofs.YtjlhnjnoigjjfaaDoor
open Go.RowKit

theorem pint_str (yb yl : Value) (L : List Nat) (w : World) (hv : RdA [] w yb L) : Calls Tryd.prog 6 #[.agg #[.bool false, yb, yl]] w (IntP (intOfN (.str L)) w) :=
  pint_any false yb yl (.str L) w (fun L' h => by cases h; exact hv.lt) (fun w' hT => pword_any yb yl L w' (hv.tch hT)) (fun W w' hn hl => pInt_any W w' hn hl)
theorem pint_lst (yb yl : Value) (its : List It) (w : World) : Calls Tryd.prog 6 #[.agg #[.bool true, yb, yl]] w (IntP (intOfN (.lst its)) w) :=
  pint_any true yb yl (.lst its) w (fun L' h => by cases h) (fun w' hT => pword_lst yb yl its w') (fun W w' hn hl => pInt_any W w' hn hl)
theorem rint_str (yb yl : Value) (L : List Nat) (w : World) (hv : RdA [] w yb L) : Calls Tryd.prog 7 #[.agg #[.bool false, yb, yl]] w (IntP (intOfN (.str L)) w) :=
  rint_any false yb yl (.str L) w (fun L' h => by cases h; exact hv.lt) (fun w' hT => rword_any yb yl L w' (hv.tch hT)) (fun W w' hn hl => rInt_any W w' hn hl)
theorem rint_lst (yb yl : Value) (its : List It) (w : World) : Calls Tryd.prog 7 #[.agg #[.bool true, yb, yl]] w (IntP (intOfN (.lst its)) w) :=
  rint_any true yb yl (.lst its) w (fun L' h => by cases h) (fun w' hT => rword_lst yb yl its w') (fun W w' hn hl => rInt_any W w' hn hl)
end Go.Proofs.YtjlhnjnoigjjfaaDoor
