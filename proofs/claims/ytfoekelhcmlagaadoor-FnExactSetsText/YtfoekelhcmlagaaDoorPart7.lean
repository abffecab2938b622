/- 1 of this claim's texts, one behind the other. -/
import Derived.Test.YtfoekelhcmlagaaDoorPart6
/- What a row's list of the program's five errors gives a walk; listed variables that read behind the call as before it. -/
namespace Go.Proofs.YtfoekelhcmlagaaDoor
open Go.RowKit Go.ChangeShapes

theorem varsAll_on {H : Type} {enc : TypeId × Value → H} {W W' : World} (hb : Below W.heap.size W W') : ∀ {ns : List String} {ds : List (DataW H)} {ps : List MemPlace}, (∀ n ∈ ns, ∀ g t, Tryd.prog.globalNamed n = some g → (Tryd.prog.globals[g]?).map (·.type) = some t → Tryd.prog.readableRec t = true ∧ t < Tryd.prog.types.size) →
    DataW.TrodVars enc Tryd.prog W (fun _ => true) ns ds ps → DataW.TrodVars enc Tryd.prog W' (fun b => decide (b < W.heap.size)) ns ds ps
  | [], [], _, _, h => h
  | n :: ns, d :: ds, ps, hr, ⟨g, t, cs, fuel, p, q, h1, h2, h3, h4, hs, e⟩ => by
    obtain ⟨r1, r2⟩ := hr n (List.mem_cons_self ..) g t h1 h2
    have k : DataW.Trod enc Tryd.prog W 0 (fun _ => true) true t (.agg cs) d p := ⟨fuel, h4⟩
    obtain ⟨f', hd'⟩ := Below.trod Ld.laidOut r1 r2 k hb (DataW.trod_lt fuel _ _ _ h4)
    exact ⟨g, t, cs, f', p, q, h1, h2, var?_below hb h1 (var_lt h1 h3) h3, hd', varsAll_on hb (fun n hn => hr n (List.mem_cons_of_mem _ hn)) hs, e⟩
theorem vars5 {H : Type} {enc : TypeId × Value → H} {P : Program} {W : World} {sp : Nat → Bool} {n1 n2 n3 n4 n5 : String} {gs : List (DataW H)} {ps : List MemPlace} (h : DataW.TrodVars enc P W sp [n1, n2, n3, n4, n5] gs ps) : ∃ d1 d2 d3 d4 d5, gs = [d1, d2, d3, d4, d5] := by
  match gs, h with
  | [], h => exact h.elim
  | d1 :: r1, ⟨_, _, _, _, _, _, _, _, _, _, h, _⟩ =>
  match r1, h with
  | [], h => exact h.elim
  | d2 :: r2, ⟨_, _, _, _, _, _, _, _, _, _, h, _⟩ =>
  match r2, h with
  | [], h => exact h.elim
  | d3 :: r3, ⟨_, _, _, _, _, _, _, _, _, _, h, _⟩ =>
  match r3, h with
  | [], h => exact h.elim
  | d4 :: r4, ⟨_, _, _, _, _, _, _, _, _, _, h, _⟩ =>
  match r4, h with
  | [], h => exact h.elim
  | d5 :: r5, ⟨_, _, _, _, _, _, _, _, _, _, h, _⟩ =>
  match r5, h with
  | [], _ => exact ⟨d1, d2, d3, d4, d5, rfl⟩
  | _ :: _, h => exact h.elim
theorem errNames_read : ∀ n ∈ ["loop.example/g00551/impl.errRules", "loop.example/g00551/impl.errOrder", "loop.example/g00551/impl.errMany", "loop.example/g00551/impl.errWrong", "loop.example/g00551/impl.errTaken"], ∀ g t, Tryd.prog.globalNamed n = some g → (Tryd.prog.globals[g]?).map (·.type) = some t → Tryd.prog.readableRec t = true ∧ t < Tryd.prog.types.size := by
  have key : ∀ n g0, Tryd.prog.globalNamed n = some g0 → (Tryd.prog.globals[g0]?).map (·.type) = some 109 → ∀ g t, Tryd.prog.globalNamed n = some g → (Tryd.prog.globals[g]?).map (·.type) = some t → Tryd.prog.readableRec t = true ∧ t < Tryd.prog.types.size := fun n g0 h1 h2 g t h3 h4 => by
    obtain rfl := Option.some.inj (h1.symm.trans h3)
    obtain rfl := Option.some.inj (h2.symm.trans h4)
    exact ⟨by kernel_rfl, of_decide_eq_true (by kernel_rfl)⟩
  intro n hn
  simp only [List.mem_cons, List.not_mem_nil, or_false] at hn
  rcases hn with rfl | rfl | rfl | rfl | rfl
  · exact key _ 0 (by kernel_rfl) (by kernel_rfl)
  · exact key _ 1 (by kernel_rfl) (by kernel_rfl)
  · exact key _ 2 (by kernel_rfl) (by kernel_rfl)
  · exact key _ 3 (by kernel_rfl) (by kernel_rfl)
  · exact key _ 5 (by kernel_rfl) (by kernel_rfl)
end Go.Proofs.YtfoekelhcmlagaaDoor
