/- A scope with five labels, one falling into another: what holds at every jump, label by label, and a measure that every pass lowers. -/
import Derived.Test.YtknjkakokcblnaaDoorBits
namespace Go.Proofs.YtknjkakokcblnaaDoor
open Go.RowKit

theorem wp_scope_fall {P : Program} {a : Act} {w : World} {Q : Exit → Act → World → Prop} {c : Code} (J : Nat → Act → World → Prop) (μ : Nat → Act → World → Nat) (body : Nat → Code)
    (hf : ∀ l a w, J l a w → findLabel c l = some (.seq .skip (body l)))
    (first : (∀ l a w, J l a w → (body l).wp P (jumps J Q) a w) → c.wp P (jumps J Q) a w)
    (pass : ∀ l a w, J l a w → (∀ l' a' w', J l' a' w' → μ l' a' w' < μ l a w → (body l').wp P (jumps (fun l2 a2 w2 => J l2 a2 w2 ∧ μ l2 a2 w2 < μ l a w) Q) a' w') → (body l).wp P (jumps (fun l2 a2 w2 => J l2 a2 w2 ∧ μ l2 a2 w2 < μ l a w) Q) a w) : (Code.scope c).wp P Q a w := by
  have all : ∀ n l a w, μ l a w = n → J l a w → (body l).wp P (jumps (fun l2 a2 w2 => J l2 a2 w2 ∧ μ l2 a2 w2 < μ l a w) Q) a w := by
    intro n
    induction n using Nat.strongRecOn with
    | _ n ih =>
      intro l a w hn hJ
      refine pass l a w hJ ?_
      intro l' a' w' hJ' hlt
      exact wp_mono (ih _ (by omega) l' a' w' rfl hJ') (jumps_mono fun _ _ _ h => ⟨h.1, Nat.lt_trans h.2 hlt⟩)
  exact wp_scope_labels J μ (fun l => .seq .skip (body l)) hf (first fun l a w h => wp_mono (all _ l a w rfl h) (jumps_mono fun _ _ _ h => h.1)) (fun l a w h => wp_seq (wp_skip (all _ l a w rfl h)))

theorem wp_scope5 {P : Program} {a : Act} {w : World} {Q : Exit → Act → World → Prop} {c r0 r1 r2 r3 r4 : Code} (h0 : findLabel c 0 = some (.seq .skip r0)) (h1 : findLabel c 1 = some (.seq .skip r1)) (h2 : findLabel c 2 = some (.seq .skip r2)) (h3 : findLabel c 3 = some (.seq .skip r3)) (h4 : findLabel c 4 = some (.seq .skip r4))
    (J : Nat → Act → World → Prop) (hJ : ∀ l a w, J l a w → l = 0 ∨ l = 1 ∨ l = 2 ∨ l = 3 ∨ l = 4) (μ : Nat → Act → World → Nat)
    (p0 : ∀ a w, J 0 a w → r0.wp P (jumps (fun l' a' w' => J l' a' w' ∧ μ l' a' w' < μ 0 a w) Q) a w)
    (p1 : ∀ a w, J 1 a w → (∀ a' w', J 2 a' w' → μ 2 a' w' < μ 1 a w → r2.wp P (jumps (fun l' a' w' => J l' a' w' ∧ μ l' a' w' < μ 1 a w) Q) a' w') → r1.wp P (jumps (fun l' a' w' => J l' a' w' ∧ μ l' a' w' < μ 1 a w) Q) a w)
    (p2 : ∀ a w, J 2 a w → r2.wp P (jumps (fun l' a' w' => J l' a' w' ∧ μ l' a' w' < μ 2 a w) Q) a w)
    (p3 : ∀ a w, J 3 a w → (∀ a' w', J 4 a' w' → μ 4 a' w' < μ 3 a w → r4.wp P (jumps (fun l' a' w' => J l' a' w' ∧ μ l' a' w' < μ 3 a w) Q) a' w') → r3.wp P (jumps (fun l' a' w' => J l' a' w' ∧ μ l' a' w' < μ 3 a w) Q) a w)
    (p4 : ∀ a w, J 4 a w → r4.wp P (jumps (fun l' a' w' => J l' a' w' ∧ μ l' a' w' < μ 4 a w) Q) a w)
    (first : (∀ a w, J 1 a w → r1.wp P (jumps J Q) a w) → c.wp P (jumps J Q) a w) : (Code.scope c).wp P Q a w := by
  refine wp_scope_fall J μ (fun l => if l = 0 then r0 else if l = 1 then r1 else if l = 2 then r2 else if l = 3 then r3 else r4) ?_ (fun h => first fun a w hj => h 1 a w hj) ?_
  · intro l a w h
    rcases hJ l a w h with rfl | rfl | rfl | rfl | rfl
    · exact h0
    · exact h1
    · exact h2
    · exact h3
    · exact h4
  · intro l a w h fall
    rcases hJ l a w h with rfl | rfl | rfl | rfl | rfl
    · exact p0 a w h
    · exact p1 a w h fun a' w' h' hl => fall 2 a' w' h' hl
    · exact p2 a w h
    · exact p3 a w h fun a' w' h' hl => fall 4 a' w' h' hl
    · exact p4 a w h
end Go.Proofs.YtknjkakokcblnaaDoor
