/- Tries as plain mathematics: what the program builds of sorted entries, and that its lists are the document's. No function of the program. -/
import Derived.Test.YtdjhjgockgmbkaaGreatDoorM23
set_option linter.unusedVariables false
set_option linter.unusedSimpArgs false
namespace Go.Proofs.YtdjhjgockgmbkaaGreatDoor

namespace Tr
/-- The order of paths. -/
def lt : List Nat → List Nat → Prop
  | [], [] => False
  | [], _ :: _ => True
  | _ :: _, [] => False
  | x :: a, y :: b => x < y ∨ (x = y ∧ lt a b)
theorem lt_irrefl : ∀ a : List Nat, ¬ lt a a
  | [], h => h
  | x :: a, h => by
    rcases h with h | h
    · exact absurd h (Nat.lt_irrefl _)
    · exact lt_irrefl a h.2
theorem lt_ne {a b : List Nat} (h : lt a b) : a ≠ b := fun e => lt_irrefl a (by rw [← e] at h; exact h)
def Sorted (l : List En) : Prop := l.Pairwise fun a b => lt a.1 b.1
theorem Sorted.apart {l : List En} (h : Sorted l) : Apart l := h.imp lt_ne
end Tr
end Go.Proofs.YtdjhjgockgmbkaaGreatDoor

/- Tries as plain mathematics: the tree that the program builds, its lists. No function of the program. -/
namespace Go.Proofs.YtdjhjgockgmbkaaGreatDoor

namespace Tr
/-- The program's tree. -/
inductive TN where
  | nil : TN
  | leaf (p v : List Nat) : TN
  | ext (p : List Nat) (s : TN) : TN
  | branch (s : Nat → TN) (v : List Nat) : TN
section
variable (pk : List Nat → Bool → List Nat) (H : List Nat → List Nat)
/-- A node's list. -/
def itemT : TN → It
  | .nil => .str []
  | .leaf p v => .lst [.str (pk p true), .str v]
  | .ext p s => .lst [.str (pk p false), refI H (itemT s)]
  | .branch s v => .lst ((List.range 16).map (fun d => refI H (itemT (s d))) ++ [.str v])
end
end Tr
end Go.Proofs.YtdjhjgockgmbkaaGreatDoor

/- Tries as plain mathematics: the order of paths; sorted entries; what is hashed, in its order. No function of the program. -/
namespace Go.Proofs.YtdjhjgockgmbkaaGreatDoor

namespace Tr
theorem lt_trans : ∀ {a b c : List Nat}, lt a b → lt b c → lt a c
  | [], [], _, h, _ => h.elim
  | [], _ :: _, [], _, h => h.elim
  | [], _ :: _, _ :: _, _, _ => trivial
  | _ :: _, [], _, h, _ => h.elim
  | _ :: _, _ :: _, [], _, h => h.elim
  | x :: a, y :: b, z :: c, h, k => by
    rcases h with h | ⟨rfl, h⟩
    · rcases k with k | ⟨rfl, _⟩
      · exact .inl (by omega)
      · exact .inl h
    · rcases k with k | ⟨rfl, k⟩
      · exact .inl k
      · exact .inr ⟨rfl, lt_trans h k⟩
section
variable (pk : List Nat → Bool → List Nat) (H : List Nat → List Nat)
/-- What is hashed below a node, the deepest first. -/
def below : TN → List (List Nat)
  | .nil => []
  | .leaf _ _ => []
  | .ext _ s => below s ++ (if (enc (itemT pk H s)).length < 32 then [] else [enc (itemT pk H s)])
  | .branch s _ => (List.range 16).flatMap fun d => below (s d) ++ (if (enc (itemT pk H (s d))).length < 32 then [] else [enc (itemT pk H (s d))])
end
end Tr
end Go.Proofs.YtdjhjgockgmbkaaGreatDoor

/- The example of the tries, as plain mathematics. No function of the program. -/
namespace Go.Proofs.YtdjhjgockgmbkaaGreatDoor

namespace Tr
def n0 : List Nat := [243, 128, 128, 128, 128, 128, 128, 222, 23, 220, 128, 128, 128, 128, 128, 128, 198, 53, 132, 99, 111, 105, 110, 128, 128, 128, 128, 128, 128, 128, 128, 128, 133, 112, 117, 112, 112, 121, 128, 128, 128, 128, 128, 128, 128, 128, 128, 132, 118, 101, 114, 98]
def n1 : List Nat := [228, 130, 0, 111, 160, 212, 59, 135, 253, 205, 66, 23, 1, 60, 204, 146, 208, 70, 98, 225, 45, 54, 228, 204, 37, 220, 105, 0, 119, 205, 130, 26, 25, 86, 252, 62, 54]
def n2 : List Nat := [248, 64, 128, 128, 128, 128, 160, 148, 169, 249, 91, 216, 150, 152, 228, 218, 24, 18, 224, 81, 128, 83, 129, 59, 77, 91, 135, 202, 175, 107, 60, 111, 165, 126, 158, 80, 192, 255, 104, 128, 128, 128, 207, 133, 32, 111, 114, 115, 101, 136, 115, 116, 97, 108, 108, 105, 111, 110, 128, 128, 128, 128, 128, 128, 128, 128]
def d0 : List Nat := [212, 59, 135, 253, 205, 66, 23, 1, 60, 204, 146, 208, 70, 98, 225, 45, 54, 228, 204, 37, 220, 105, 0, 119, 205, 130, 26, 25, 86, 252, 62, 54]
def d1 : List Nat := [148, 169, 249, 91, 216, 150, 152, 228, 218, 24, 18, 224, 81, 128, 83, 129, 59, 77, 91, 135, 202, 175, 107, 60, 111, 165, 126, 158, 80, 192, 255, 104]
def d2 : List Nat := [189, 62, 229, 7, 230, 198, 124, 254, 252, 169, 143, 132, 190, 71, 193, 187, 192, 9, 49, 95, 171, 196, 64, 93, 180, 186, 50, 25, 3, 116, 87, 42]
end Tr
end Go.Proofs.YtdjhjgockgmbkaaGreatDoor
