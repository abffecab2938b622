/- The book of entries: a map from places to entries, told by the list of its entries; what is risen by place and has the same members is the same list. -/
import Derived.Test.YtimmoclemcnhnaaAreaT
import Derived.Maps.Own
import Derived.Maps.OwnOps
import Derived.Maps.OwnSet
import Derived.Maps.Views
import Derived.Maps.RangeWalk
import Derived.DeepKeys4
namespace Go.Proofs.Ytimmoclemcnhnaa
open Go.RowKit Go.Maps

/-- how an entry in the map reads -/
def enElem (v : Value) : Option (DataW En × List MemPlace) :=
  match v with
  | .agg cs => (match cs.toList with
    | [.string a, .string b, .string c] => some (.held ⟨a, b, c⟩, [])
    | _ => none)
  | _ => none
theorem enElem_mk (e : En) : enElem (enV e) = some (.held e, []) := rfl
theorem enElem_inv {v : Value} {y : DataW En × List MemPlace} (h : enElem v = some y) : ∃ e : En, v = enV e ∧ y = (.held e, []) := by
  cases v
  case agg cs =>
    unfold enElem at h
    simp only at h
    split at h
    · rename_i a b c e
      refine ⟨⟨a, b, c⟩, ?_, (Option.some.inj h).symm⟩
      exact congrArg Value.agg (Array.toList_inj.1 e)
    · cases h
  all_goals (unfold enElem at h; cases h)
/-- what a place reads as -/
def plK (k n : ByteArray) : Lit := .string (keyBytes [.string k.data.toList, .string n.data.toList])
def keyE (e : En) : Lit := plK e.ke e.na
theorem placeRow : (63 : TypeId) < Try.prog.types.size := of_decide_eq_true (by kernel_rfl)
theorem placeWide : (match Try.prog.underlying 63 with | some (.array _ _) | some (.struct _) => true | _ => false) = true := by kernel_rfl
theorem laidOutR : laidOutB Try.prog = true := by kernel_rfl
theorem placeKeyed : Keyed Try.prog 63 := Keyed.of_law (deep_law_laid laidOutR (m := 2) (by omega) placeRow (by kernel_rfl) placeWide)
theorem typesR : Try.prog.types.size + 1 = (110 - 1) + 2 := by kernel_rfl
theorem placeKeyT : Try.prog.keyType 63 = true := by kernel_rfl
theorem placeCells : Try.prog.cellsOf 63 = 2 := by kernel_rfl
theorem strCellsR : Try.prog.cellsOf 9 = 1 := by kernel_rfl
theorem keyLits_place (d : Nat) (k n : ByteArray) (hk : k.size ≤ maxLen) (hn : n.size ≤ maxLen) : Try.prog.keyLits (d + 2) 63 [.string k, .string n] = some [.string k.data.toList, .string n.data.toList] := by
  simp [Program.keyLits, Try.underlying63, Try.underlying9, placeCells, strCellsR, hk, hn]
theorem keyOf_place {k n : ByteArray} (hk : k.size ≤ maxLen) (hn : n.size ≤ maxLen) : keyOf Try.prog 63 (.agg #[.string k, .string n]) = some (plK k n) := by
  unfold keyOf
  rw [Try.underlying63]
  simp only
  rw [placeKeyT, typesR]
  have hf : (Value.agg #[.string k, .string n]).formed Try.prog 63 = true := by simp [Value.formed, Try.underlying63, placeCells]
  rw [hf]
  show (if (true && true) = true then (Try.prog.keyLits ((110 - 1) + 2) 63 [.string k, .string n]).map fun ls => Lit.string (keyBytes ls) else none) = _
  rw [keyLits_place _ k n hk hn]; rfl
theorem keyLits_str (d : Nat) (c : Value) : (∃ a, c = .string a) ∨ Try.prog.keyLits (d + 1) 9 [c] = none := by
  cases c
  case string s => exact .inl ⟨s, rfl⟩
  all_goals (right; simp [Program.keyLits, Try.underlying9])
theorem keyLits_inv (d : Nat) (c0 c1 : Value) (ls : List Lit) (h : Try.prog.keyLits (d + 2) 63 [c0, c1] = some ls) : ∃ a b, c0 = .string a ∧ c1 = .string b := by
  unfold Program.keyLits at h
  simp [Try.underlying63, placeCells, strCellsR] at h
  rcases keyLits_str d c0 with ⟨a, rfl⟩ | e
  · rcases keyLits_str d c1 with ⟨b, rfl⟩ | e
    · exact ⟨a, b, rfl, rfl⟩
    · rw [e] at h
      cases hx : Try.prog.keyLits (d + 1) 9 [Value.string a] with
      | none => rw [hx] at h; cases h
      | some y => rw [hx] at h; cases h
  · rw [e] at h; cases h
theorem keyOf_place_inv {v : Value} {kl : Lit} (h : keyOf Try.prog 63 v = some kl) : ∃ x : ByteArray × ByteArray, v = .agg #[.string x.1, .string x.2] := by
  unfold keyOf at h
  rw [Try.underlying63] at h
  simp only at h
  rw [placeKeyT, typesR] at h
  by_cases hf : v.formed Try.prog 63 = true
  · rw [hf] at h
    cases v <;> simp [Value.formed, Try.underlying63, placeCells] at hf
    rename_i cs
    obtain ⟨l⟩ := cs
    simp at hf
    match l, hf with
    | [c0, c1], _ =>
      cases hl : Try.prog.keyLits ((110 - 1) + 2) 63 [c0, c1] with
      | none =>
        have h' : (if (true && true) = true then (Try.prog.keyLits ((110 - 1) + 2) 63 [c0, c1]).map fun ls => Lit.string (keyBytes ls) else none) = some kl := h
        rw [hl] at h'; cases h'
      | some ls =>
        obtain ⟨a, b, rfl, rfl⟩ := keyLits_inv _ _ _ _ hl
        exact ⟨(_, _), rfl⟩
  · rw [Bool.not_eq_true] at hf
    rw [hf] at h; simp at h
/-- texts that can be handed on -/
def smallE (e : En) : Prop := e.ke.size ≤ 200 ∧ e.na.size ≤ 200 ∧ e.va.size ≤ 200
theorem keyOf_E {e : En} (h : smallE e) : keyOf Try.prog 63 (.agg #[.string e.ke, .string e.na]) = some (keyE e) := keyOf_place (by have := h.1; unfold maxLen; omega) (by have := h.2.1; unfold maxLen; omega)
theorem keyE_inj {a b : En} (ha : smallE a) (hb : smallE b) (h : keyE a = keyE b) : a.ke = b.ke ∧ a.na = b.na := by
  have e := placeKeyed.inj (keyOf_E ha) (by rw [h]; exact keyOf_E hb)
  injection e with e
  injection e with e
  injection e with e1 e2
  injection e2 with e2
  injection e1 with e1
  injection e2 with e2
  exact ⟨e1, e2⟩
theorem keyE_lit (e : En) : WideAt.IsKeyLit (keyE e) := by unfold keyE plK; trivial
theorem keyE_same {a b : Lit} (h : a.sameKey b = true) : a = b := WideAt.sameKey_eq h
/-- block bm is a map of at most N entries, which are just those of the list -/
def BookL (w : World) (bm N : Nat) (L : List En) : Prop :=
  ∃ D : DataW En, w.ownsMap Try.prog 63 enElem bm N D ∧ (∀ e, e ∈ L → smallE e ∧ Maps.has D (keyE e) = true ∧ ∀ zd, D.atKey (keyE e) zd = .held e) ∧ ∀ kl, Maps.has D kl = true → ∃ e, e ∈ L ∧ keyE e = kl
theorem BookL.kept {w w' : World} {bm N : Nat} {L : List En} {row : Option Nat} (h : BookL w bm N L) (hg : w.grownBy w' row) (hne : some bm ≠ row) : BookL w' bm N L := by
  obtain ⟨D, h1, h2⟩ := h
  exact ⟨D, h1.kept hg hne, h2⟩
theorem BookL.below {w w' : World} {bm N : Nat} {L : List En} (h : BookL w bm N L) (hb : Below w.heap.size w w') : BookL w' bm N L := by
  obtain ⟨D, ⟨es, clock, h0, h1⟩, h2⟩ := h
  have hlt : bm < w.heap.size := (Array.getElem?_eq_some_iff.1 h0).1
  exact ⟨D, ⟨es, clock, by rw [hb.block bm hlt]; exact h0, h1⟩, h2⟩
theorem BookL.lt {w : World} {bm N : Nat} {L : List En} (h : BookL w bm N L) : bm < w.heap.size := by
  obtain ⟨D, h1, _⟩ := h; exact h1.lt
theorem BookL.mono {w : World} {bm N N' : Nat} {L : List En} (h : BookL w bm N L) (hN : N ≤ N') : BookL w bm N' L := by
  obtain ⟨D, h1, h2⟩ := h; exact ⟨D, h1.mono hN, h2⟩
theorem BookL.ne {w : World} {bm N b o : Nat} {v : Value} {L : List En} (h : BookL w bm N L) (hc : w.cell? ⟨b, o, none⟩ = some v) : b ≠ bm := by
  rintro rfl
  obtain ⟨D, ⟨es, clock, h0, _⟩, _⟩ := h
  simp [World.cell?, h0] at hc
theorem BookL.small {w : World} {bm N : Nat} {L : List En} (h : BookL w bm N L) : ∀ e, e ∈ L → smallE e := by
  obtain ⟨D, _, h2, _⟩ := h
  exact fun e he => (h2 e he).1
/-- two of one place are one -/
theorem BookL.one {w : World} {bm N : Nat} {L : List En} (h : BookL w bm N L) : ∀ a b, a ∈ L → b ∈ L → keyE a = keyE b → a = b := by
  obtain ⟨D, _, h2, _⟩ := h
  intro a b ha hb e
  have e1 := (h2 a ha).2.2 .nil
  have e2 := (h2 b hb).2.2 .nil
  rw [e, e2] at e1
  injection e1 with e1
  exact e1.symm
theorem book_made (w : World) : BookL (w.alloc (.map #[] 0)) w.heap.size 0 [] :=
  ⟨.map [], World.ownsMap_made w _ _ _, fun _ h => absurd h (by simp), fun kl h => by simp [Maps.has] at h⟩
theorem book_put {w' : World} {bm N : Nat} {L L' : List En} {D : DataW En} {e : En} (hD : IsMap D) (he : smallE e)
    (h2 : (∀ e, e ∈ L → smallE e ∧ Maps.has D (keyE e) = true ∧ ∀ zd, D.atKey (keyE e) zd = .held e) ∧ ∀ kl, Maps.has D kl = true → ∃ e, e ∈ L ∧ keyE e = kl)
    (h1 : w'.ownsMap Try.prog 63 enElem bm N (D.put (keyE e) (.held e))) (hL : ∀ x, x ∈ L' ↔ x = e ∨ (x ∈ L ∧ keyE x ≠ keyE e)) : BookL w' bm N L' := by
  refine ⟨_, h1, fun x hx => ?_, fun kl hk => ?_⟩
  · rcases (hL x).1 hx with rfl | ⟨hx, hne⟩
    · exact ⟨he, has_put_same hD (keyE_lit _) _, fun zd => atKey_put_same hD (keyE_lit _) _ _⟩
    · obtain ⟨s, a, b⟩ := h2.1 x hx
      exact ⟨s, by rw [has_put_other hne]; exact a, fun zd => by rw [atKey_put_other hne]; exact b zd⟩
  · by_cases e1 : kl = keyE e
    · exact ⟨e, (hL e).2 (.inl rfl), e1.symm⟩
    · rw [has_put_other e1] at hk
      obtain ⟨x, hx, rfl⟩ := h2.2 kl hk
      exact ⟨x, (hL x).2 (.inr ⟨hx, e1⟩), rfl⟩
theorem book_del {w' : World} {bm N : Nat} {L L' : List En} {D : DataW En} {e : En}
    (h2 : (∀ e, e ∈ L → smallE e ∧ Maps.has D (keyE e) = true ∧ ∀ zd, D.atKey (keyE e) zd = .held e) ∧ ∀ kl, Maps.has D kl = true → ∃ e, e ∈ L ∧ keyE e = kl)
    (h1 : w'.ownsMap Try.prog 63 enElem bm N (D.del (keyE e))) (hL : ∀ x, x ∈ L' ↔ x ∈ L ∧ keyE x ≠ keyE e) : BookL w' bm N L' := by
  refine ⟨_, h1, fun x hx => ?_, fun kl hk => ?_⟩
  · obtain ⟨hx, hne⟩ := (hL x).1 hx
    obtain ⟨s, a, b⟩ := h2.1 x hx
    exact ⟨s, by rw [has_del_other hne]; exact a, fun zd => by rw [atKey_del_other hne]; exact b zd⟩
  · by_cases e1 : kl = keyE e
    · subst e1; rw [has_del_same] at hk; cases hk
    · rw [has_del_other e1] at hk
      obtain ⟨x, hx, rfl⟩ := h2.2 kl hk
      exact ⟨x, (hL x).2 ⟨hx, e1⟩, rfl⟩
/-- rising by place, none twice -/
def RiseE (L : List En) : Prop := L.Pairwise (fun a b => enLess a b = true)
theorem enLess_iff (a b : En) : enLess a b = true ↔ a.ke.data.toList < b.ke.data.toList ∨ (a.ke.data.toList = b.ke.data.toList ∧ a.na.data.toList < b.na.data.toList) := by
  unfold enLess
  simp only [Lib.toList_data, Bool.or_eq_true, Bool.and_eq_true, less_iff, beq_iff_eq]
theorem enLess_irrefl (a : En) : enLess a a = false := by
  rw [Bool.eq_false_iff]
  intro h
  rcases (enLess_iff a a).1 h with h | h
  · exact List.lt_irrefl _ h
  · exact List.lt_irrefl _ h.2
theorem enLess_trans {a b c : En} (h1 : enLess a b = true) (h2 : enLess b c = true) : enLess a c = true := by
  rw [enLess_iff] at *
  rcases h1 with h1 | ⟨h1, h1'⟩ <;> rcases h2 with h2 | ⟨h2, h2'⟩
  · exact .inl (List.lt_trans h1 h2)
  · exact .inl (h2 ▸ h1)
  · exact .inl (h1 ▸ h2)
  · exact .inr ⟨h1.trans h2, List.lt_trans h1' h2'⟩
theorem enLess_asymm {a b : En} (h : enLess a b = true) : enLess b a = false := by
  rw [Bool.eq_false_iff]
  intro h2
  have := enLess_trans h h2
  rw [enLess_irrefl] at this; cases this
/-- neither ahead of the other: of one place -/
theorem enLess_same {a b : En} (h1 : enLess a b = false) (h2 : enLess b a = false) : a.ke.data.toList = b.ke.data.toList ∧ a.na.data.toList = b.na.data.toList := by
  rw [Bool.eq_false_iff, ne_eq, enLess_iff] at h1 h2
  rcases lt_tri a.ke.data.toList b.ke.data.toList with h | h | h
  · exact absurd (.inl h) h1
  · refine ⟨h, ?_⟩
    rcases lt_tri a.na.data.toList b.na.data.toList with h' | h' | h'
    · exact absurd (.inr ⟨h, h'⟩) h1
    · exact h'
    · exact absurd (.inr ⟨h.symm, h'⟩) h2
  · exact absurd (.inl h) h2
theorem keyE_of {a b : En} (h : a.ke.data.toList = b.ke.data.toList ∧ a.na.data.toList = b.na.data.toList) : keyE a = keyE b := by unfold keyE plK; rw [h.1, h.2]
theorem less_ne {a b : En} (ha : smallE a) (hb : smallE b) (h : enLess a b = true) : keyE a ≠ keyE b := by
  intro e
  obtain ⟨e1, e2⟩ := keyE_inj ha hb e
  rw [enLess_iff, e1, e2] at h
  rcases h with h | h
  · exact List.lt_irrefl _ h
  · exact List.lt_irrefl _ h.2
theorem rise_eq : ∀ {A B : List En}, RiseE A → RiseE B → (∀ x, x ∈ A ↔ x ∈ B) → A = B
  | [], [], _, _, _ => rfl
  | [], b :: B, _, _, h => absurd ((h b).2 (by simp)) (by simp)
  | a :: A, [], _, _, h => absurd ((h a).1 (by simp)) (by simp)
  | a :: A, b :: B, ha, hb, h => by
    obtain ⟨ha1, ha2⟩ := List.pairwise_cons.1 ha
    obtain ⟨hb1, hb2⟩ := List.pairwise_cons.1 hb
    have e : a = b := by
      rcases List.mem_cons.1 ((h a).1 (by simp)) with e | e
      · exact e
      · rcases List.mem_cons.1 ((h b).2 (by simp)) with e2 | e2
        · exact e2.symm
        · have h1 := hb1 a e
          have h2 := ha1 b e2
          rw [enLess_asymm h1] at h2; cases h2
    subst e
    congr 1
    refine rise_eq ha2 hb2 fun x => ?_
    have hx := h x
    rw [List.mem_cons, List.mem_cons] at hx
    constructor
    · intro hm
      rcases hx.1 (.inr hm) with e | e
      · subst e; have := ha1 x hm; rw [enLess_irrefl] at this; cases this
      · exact e
    · intro hm
      rcases hx.2 (.inr hm) with e | e
      · subst e; have := hb1 x hm; rw [enLess_irrefl] at this; cases this
      · exact e
theorem atE_get {L : List En} {i : Nat} (h : i < L.length) : atE L i = L[i] := by simp [atE, h]
/-- what is right rises -/
theorem area_rise {L : List En} (h : areaB L = true) : RiseE L := by
  have hp := (areaB_parts h).2
  have step : ∀ i, i + 1 < L.length → enLess (atE L i) (atE L (i + 1)) = true := fun i hi => by
    have := (hp (i + 1) hi).2.1
    unfold riseB at this
    rw [Nat.add_sub_cancel, decide_eq_false (by omega), Bool.false_or] at this
    exact this
  have far : ∀ d i, i + d + 1 < L.length → enLess (atE L i) (atE L (i + d + 1)) = true := by
    intro d
    induction d with
    | zero => intro i hi; exact step i hi
    | succ d ih => intro i hi; exact enLess_trans (ih i (by omega)) (step (i + d + 1) hi)
  rw [RiseE, List.pairwise_iff_getElem]
  intro i j hi hj hij
  have := far (j - i - 1) i (by omega)
  rw [show i + (j - i - 1) + 1 = j by omega, atE_get hi, atE_get hj] at this
  exact this
theorem area_small {L : List En} (h : areaB L = true) : ∀ e, e ∈ L → smallE e ∧ e.ke.size ≤ 200 ∧ e.na.size ≤ 20 ∧ e.va.size ≤ 40 := by
  intro e he
  obtain ⟨i, hi, rfl⟩ := List.mem_iff_getElem.1 he
  have := enB_parts ((areaB_parts h).2 i hi).1
  rw [atE_get hi] at this
  exact ⟨⟨by omega, by omega, by omega⟩, by omega, by omega, by omega⟩
end Go.Proofs.Ytimmoclemcnhnaa
