/- 10 of this claim's texts, one behind the other. -/
import Derived.Test.YtimmoclemcnhnaaDoorPart1
import Derived.Maps.Own
import Derived.Maps.OwnOps
import Derived.Maps.OwnSet
import Derived.Maps.Views
import Derived.Maps.RangeWalk
import Derived.DeepKeys4
import Derived.Laws.AppendOwn
import Derived.Test.YtimmoclemcnhnaaDoorPart2
import Derived.Laws.ResultCell
import Derived.Deep.RegionHeld3
import Derived.Deep.DeepCutAuto
import Derived.Laws.AppendOwnNone
/- The book of entries: a map from places to entries, told by the list of its entries; what is risen by place and has the same members is the same list. -/
namespace Go.Proofs.YtimmoclemcnhnaaDoor
open Go.RowKit Go.Maps

/-- how an entry in the map reads -/
def enElem (v : Value) : Option (DataW En × List MemPlace) :=
  match v with
  | .agg cs => (match cs.toList with
    | [.string a, .string b, .string c] => some (.held ⟨a, b, c⟩, [])
    | _ => none)
  | _ => none
theorem enElem_mk (e : En) : enElem (enV e) = some (.held e, []) := rfl
theorem enElem_inv {v : Value} {y : DataW En × List MemPlace} (h : enElem v = some y) : ∃ e : En, v = enV e ∧ y = (.held e, []) := by
  cases v
  case agg cs =>
    unfold enElem at h
    simp only at h
    split at h
    · rename_i a b c e
      refine ⟨⟨a, b, c⟩, ?_, (Option.some.inj h).symm⟩
      exact congrArg Value.agg (Array.toList_inj.1 e)
    · cases h
  all_goals (unfold enElem at h; cases h)
/-- what a place reads as -/
def plK (k n : ByteArray) : Lit := .string (keyBytes [.string k.data.toList, .string n.data.toList])
def keyE (e : En) : Lit := plK e.ke e.na
theorem placeRow : (158 : TypeId) < Tryd.prog.types.size := of_decide_eq_true (by kernel_rfl)
theorem placeWide : (match Tryd.prog.underlying 158 with | some (.array _ _) | some (.struct _) => true | _ => false) = true := by kernel_rfl
theorem laidOutR : laidOutB Tryd.prog = true := by kernel_rfl
set_option maxRecDepth 10000 in
theorem placeKeyed : Keyed Tryd.prog 158 := Keyed.of_law (deep_law_laid laidOutR (m := 2) (by omega) placeRow (by kernel_rfl) placeWide)
theorem typesR : Tryd.prog.types.size + 1 = (273 - 1) + 2 := by kernel_rfl
theorem placeKeyT : Tryd.prog.keyType 158 = true := by kernel_rfl
theorem placeCells : Tryd.prog.cellsOf 158 = 2 := by kernel_rfl
theorem strCellsR : Tryd.prog.cellsOf 9 = 1 := by kernel_rfl
set_option maxRecDepth 10000 in
theorem keyLits_place (d : Nat) (k n : ByteArray) (hk : k.size ≤ maxLen) (hn : n.size ≤ maxLen) : Tryd.prog.keyLits (d + 2) 158 [.string k, .string n] = some [.string k.data.toList, .string n.data.toList] := by
  simp [Program.keyLits, Tryd.underlying158, Tryd.underlying9, placeCells, strCellsR, hk, hn]
set_option maxRecDepth 10000 in
theorem keyOf_place {k n : ByteArray} (hk : k.size ≤ maxLen) (hn : n.size ≤ maxLen) : keyOf Tryd.prog 158 (.agg #[.string k, .string n]) = some (plK k n) := by
  unfold keyOf
  rw [Tryd.underlying158]
  simp only
  rw [placeKeyT, typesR]
  have hf : (Value.agg #[.string k, .string n]).formed Tryd.prog 158 = true := by simp [Value.formed, Tryd.underlying158, placeCells]
  rw [hf]
  show (if (true && true) = true then (Tryd.prog.keyLits ((273 - 1) + 2) 158 [.string k, .string n]).map fun ls => Lit.string (keyBytes ls) else none) = _
  rw [keyLits_place _ k n hk hn]; rfl
set_option maxRecDepth 10000 in
theorem keyLits_str (d : Nat) (c : Value) : (∃ a, c = .string a) ∨ Tryd.prog.keyLits (d + 1) 9 [c] = none := by
  cases c
  case string s => exact .inl ⟨s, rfl⟩
  all_goals (right; simp [Program.keyLits, Tryd.underlying9])
set_option maxRecDepth 10000 in
theorem keyLits_inv (d : Nat) (c0 c1 : Value) (ls : List Lit) (h : Tryd.prog.keyLits (d + 2) 158 [c0, c1] = some ls) : ∃ a b, c0 = .string a ∧ c1 = .string b := by
  unfold Program.keyLits at h
  simp [Tryd.underlying158, placeCells, strCellsR] at h
  rcases keyLits_str d c0 with ⟨a, rfl⟩ | e
  · rcases keyLits_str d c1 with ⟨b, rfl⟩ | e
    · exact ⟨a, b, rfl, rfl⟩
    · rw [e] at h
      cases hx : Tryd.prog.keyLits (d + 1) 9 [Value.string a] with
      | none => rw [hx] at h; cases h
      | some y => rw [hx] at h; cases h
  · rw [e] at h; cases h
set_option maxRecDepth 10000 in
theorem keyOf_place_inv {v : Value} {kl : Lit} (h : keyOf Tryd.prog 158 v = some kl) : ∃ x : ByteArray × ByteArray, v = .agg #[.string x.1, .string x.2] := by
  unfold keyOf at h
  rw [Tryd.underlying158] at h
  simp only at h
  rw [placeKeyT, typesR] at h
  by_cases hf : v.formed Tryd.prog 158 = true
  · rw [hf] at h
    cases v <;> simp [Value.formed, Tryd.underlying158, placeCells] at hf
    rename_i cs
    obtain ⟨l⟩ := cs
    simp at hf
    match l, hf with
    | [c0, c1], _ =>
      cases hl : Tryd.prog.keyLits ((273 - 1) + 2) 158 [c0, c1] with
      | none =>
        have h' : (if (true && true) = true then (Tryd.prog.keyLits ((273 - 1) + 2) 158 [c0, c1]).map fun ls => Lit.string (keyBytes ls) else none) = some kl := h
        rw [hl] at h'; cases h'
      | some ls =>
        obtain ⟨a, b, rfl, rfl⟩ := keyLits_inv _ _ _ _ hl
        exact ⟨(_, _), rfl⟩
  · rw [Bool.not_eq_true] at hf
    rw [hf] at h; simp at h
/-- texts that can be handed on -/
def smallE (e : En) : Prop := e.ke.size ≤ 200 ∧ e.na.size ≤ 200 ∧ e.va.size ≤ 200
theorem keyOf_E {e : En} (h : smallE e) : keyOf Tryd.prog 158 (.agg #[.string e.ke, .string e.na]) = some (keyE e) := keyOf_place (by have := h.1; unfold maxLen; omega) (by have := h.2.1; unfold maxLen; omega)
theorem keyE_inj {a b : En} (ha : smallE a) (hb : smallE b) (h : keyE a = keyE b) : a.ke = b.ke ∧ a.na = b.na := by
  have e := placeKeyed.inj (keyOf_E ha) (by rw [h]; exact keyOf_E hb)
  injection e with e
  injection e with e
  injection e with e1 e2
  injection e2 with e2
  injection e1 with e1
  injection e2 with e2
  exact ⟨e1, e2⟩
theorem keyE_lit (e : En) : WideAt.IsKeyLit (keyE e) := by unfold keyE plK; trivial
theorem keyE_same {a b : Lit} (h : a.sameKey b = true) : a = b := WideAt.sameKey_eq h
/-- block bm is a map of at most N entries, which are just those of the list -/
def BookL (w : World) (bm N : Nat) (L : List En) : Prop :=
  ∃ D : DataW En, w.ownsMap Tryd.prog 158 enElem bm N D ∧ (∀ e, e ∈ L → smallE e ∧ Maps.has D (keyE e) = true ∧ ∀ zd, D.atKey (keyE e) zd = .held e) ∧ ∀ kl, Maps.has D kl = true → ∃ e, e ∈ L ∧ keyE e = kl
theorem BookL.kept {w w' : World} {bm N : Nat} {L : List En} {row : Option Nat} (h : BookL w bm N L) (hg : w.grownBy w' row) (hne : some bm ≠ row) : BookL w' bm N L := by
  obtain ⟨D, h1, h2⟩ := h
  exact ⟨D, h1.kept hg hne, h2⟩
theorem BookL.below {w w' : World} {bm N : Nat} {L : List En} (h : BookL w bm N L) (hb : Below w.heap.size w w') : BookL w' bm N L := by
  obtain ⟨D, ⟨es, clock, h0, h1⟩, h2⟩ := h
  have hlt : bm < w.heap.size := (Array.getElem?_eq_some_iff.1 h0).1
  exact ⟨D, ⟨es, clock, by rw [hb.block bm hlt]; exact h0, h1⟩, h2⟩
theorem BookL.lt {w : World} {bm N : Nat} {L : List En} (h : BookL w bm N L) : bm < w.heap.size := by
  obtain ⟨D, h1, _⟩ := h; exact h1.lt
theorem BookL.mono {w : World} {bm N N' : Nat} {L : List En} (h : BookL w bm N L) (hN : N ≤ N') : BookL w bm N' L := by
  obtain ⟨D, h1, h2⟩ := h; exact ⟨D, h1.mono hN, h2⟩
theorem BookL.ne {w : World} {bm N b o : Nat} {v : Value} {L : List En} (h : BookL w bm N L) (hc : w.cell? ⟨b, o, none⟩ = some v) : b ≠ bm := by
  rintro rfl
  obtain ⟨D, ⟨es, clock, h0, _⟩, _⟩ := h
  simp [World.cell?, h0] at hc
theorem BookL.small {w : World} {bm N : Nat} {L : List En} (h : BookL w bm N L) : ∀ e, e ∈ L → smallE e := by
  obtain ⟨D, _, h2, _⟩ := h
  exact fun e he => (h2 e he).1
/-- two of one place are one -/
theorem BookL.one {w : World} {bm N : Nat} {L : List En} (h : BookL w bm N L) : ∀ a b, a ∈ L → b ∈ L → keyE a = keyE b → a = b := by
  obtain ⟨D, _, h2, _⟩ := h
  intro a b ha hb e
  have e1 := (h2 a ha).2.2 .nil
  have e2 := (h2 b hb).2.2 .nil
  rw [e, e2] at e1
  injection e1 with e1
  exact e1.symm
theorem book_made (w : World) : BookL (w.alloc (.map #[] 0)) w.heap.size 0 [] :=
  ⟨.map [], World.ownsMap_made w _ _ _, fun _ h => absurd h (by simp), fun kl h => by simp [Maps.has] at h⟩
theorem book_put {w' : World} {bm N : Nat} {L L' : List En} {D : DataW En} {e : En} (hD : IsMap D) (he : smallE e)
    (h2 : (∀ e, e ∈ L → smallE e ∧ Maps.has D (keyE e) = true ∧ ∀ zd, D.atKey (keyE e) zd = .held e) ∧ ∀ kl, Maps.has D kl = true → ∃ e, e ∈ L ∧ keyE e = kl)
    (h1 : w'.ownsMap Tryd.prog 158 enElem bm N (D.put (keyE e) (.held e))) (hL : ∀ x, x ∈ L' ↔ x = e ∨ (x ∈ L ∧ keyE x ≠ keyE e)) : BookL w' bm N L' := by
  refine ⟨_, h1, fun x hx => ?_, fun kl hk => ?_⟩
  · rcases (hL x).1 hx with rfl | ⟨hx, hne⟩
    · exact ⟨he, has_put_same hD (keyE_lit _) _, fun zd => atKey_put_same hD (keyE_lit _) _ _⟩
    · obtain ⟨s, a, b⟩ := h2.1 x hx
      exact ⟨s, by rw [has_put_other hne]; exact a, fun zd => by rw [atKey_put_other hne]; exact b zd⟩
  · by_cases e1 : kl = keyE e
    · exact ⟨e, (hL e).2 (.inl rfl), e1.symm⟩
    · rw [has_put_other e1] at hk
      obtain ⟨x, hx, rfl⟩ := h2.2 kl hk
      exact ⟨x, (hL x).2 (.inr ⟨hx, e1⟩), rfl⟩
theorem book_del {w' : World} {bm N : Nat} {L L' : List En} {D : DataW En} {e : En}
    (h2 : (∀ e, e ∈ L → smallE e ∧ Maps.has D (keyE e) = true ∧ ∀ zd, D.atKey (keyE e) zd = .held e) ∧ ∀ kl, Maps.has D kl = true → ∃ e, e ∈ L ∧ keyE e = kl)
    (h1 : w'.ownsMap Tryd.prog 158 enElem bm N (D.del (keyE e))) (hL : ∀ x, x ∈ L' ↔ x ∈ L ∧ keyE x ≠ keyE e) : BookL w' bm N L' := by
  refine ⟨_, h1, fun x hx => ?_, fun kl hk => ?_⟩
  · obtain ⟨hx, hne⟩ := (hL x).1 hx
    obtain ⟨s, a, b⟩ := h2.1 x hx
    exact ⟨s, by rw [has_del_other hne]; exact a, fun zd => by rw [atKey_del_other hne]; exact b zd⟩
  · by_cases e1 : kl = keyE e
    · subst e1; rw [has_del_same] at hk; cases hk
    · rw [has_del_other e1] at hk
      obtain ⟨x, hx, rfl⟩ := h2.2 kl hk
      exact ⟨x, (hL x).2 ⟨hx, e1⟩, rfl⟩
/-- rising by place, none twice -/
def RiseE (L : List En) : Prop := L.Pairwise (fun a b => enLess a b = true)
theorem enLess_iff (a b : En) : enLess a b = true ↔ a.ke.data.toList < b.ke.data.toList ∨ (a.ke.data.toList = b.ke.data.toList ∧ a.na.data.toList < b.na.data.toList) := by
  unfold enLess
  simp only [Lib.toList_data, Bool.or_eq_true, Bool.and_eq_true, less_iff, beq_iff_eq]
theorem enLess_irrefl (a : En) : enLess a a = false := by
  rw [Bool.eq_false_iff]
  intro h
  rcases (enLess_iff a a).1 h with h | h
  · exact List.lt_irrefl _ h
  · exact List.lt_irrefl _ h.2
theorem enLess_trans {a b c : En} (h1 : enLess a b = true) (h2 : enLess b c = true) : enLess a c = true := by
  rw [enLess_iff] at *
  rcases h1 with h1 | ⟨h1, h1'⟩ <;> rcases h2 with h2 | ⟨h2, h2'⟩
  · exact .inl (List.lt_trans h1 h2)
  · exact .inl (h2 ▸ h1)
  · exact .inl (h1 ▸ h2)
  · exact .inr ⟨h1.trans h2, List.lt_trans h1' h2'⟩
theorem enLess_asymm {a b : En} (h : enLess a b = true) : enLess b a = false := by
  rw [Bool.eq_false_iff]
  intro h2
  have := enLess_trans h h2
  rw [enLess_irrefl] at this; cases this
/-- neither ahead of the other: of one place -/
theorem enLess_same {a b : En} (h1 : enLess a b = false) (h2 : enLess b a = false) : a.ke.data.toList = b.ke.data.toList ∧ a.na.data.toList = b.na.data.toList := by
  rw [Bool.eq_false_iff, ne_eq, enLess_iff] at h1 h2
  rcases lt_tri a.ke.data.toList b.ke.data.toList with h | h | h
  · exact absurd (.inl h) h1
  · refine ⟨h, ?_⟩
    rcases lt_tri a.na.data.toList b.na.data.toList with h' | h' | h'
    · exact absurd (.inr ⟨h, h'⟩) h1
    · exact h'
    · exact absurd (.inr ⟨h.symm, h'⟩) h2
  · exact absurd (.inl h) h2
theorem keyE_of {a b : En} (h : a.ke.data.toList = b.ke.data.toList ∧ a.na.data.toList = b.na.data.toList) : keyE a = keyE b := by unfold keyE plK; rw [h.1, h.2]
theorem less_ne {a b : En} (ha : smallE a) (hb : smallE b) (h : enLess a b = true) : keyE a ≠ keyE b := by
  intro e
  obtain ⟨e1, e2⟩ := keyE_inj ha hb e
  rw [enLess_iff, e1, e2] at h
  rcases h with h | h
  · exact List.lt_irrefl _ h
  · exact List.lt_irrefl _ h.2
theorem rise_eq : ∀ {A B : List En}, RiseE A → RiseE B → (∀ x, x ∈ A ↔ x ∈ B) → A = B
  | [], [], _, _, _ => rfl
  | [], b :: B, _, _, h => absurd ((h b).2 (by simp)) (by simp)
  | a :: A, [], _, _, h => absurd ((h a).1 (by simp)) (by simp)
  | a :: A, b :: B, ha, hb, h => by
    obtain ⟨ha1, ha2⟩ := List.pairwise_cons.1 ha
    obtain ⟨hb1, hb2⟩ := List.pairwise_cons.1 hb
    have e : a = b := by
      rcases List.mem_cons.1 ((h a).1 (by simp)) with e | e
      · exact e
      · rcases List.mem_cons.1 ((h b).2 (by simp)) with e2 | e2
        · exact e2.symm
        · have h1 := hb1 a e
          have h2 := ha1 b e2
          rw [enLess_asymm h1] at h2; cases h2
    subst e
    congr 1
    refine rise_eq ha2 hb2 fun x => ?_
    have hx := h x
    rw [List.mem_cons, List.mem_cons] at hx
    constructor
    · intro hm
      rcases hx.1 (.inr hm) with e | e
      · subst e; have := ha1 x hm; rw [enLess_irrefl] at this; cases this
      · exact e
    · intro hm
      rcases hx.2 (.inr hm) with e | e
      · subst e; have := hb1 x hm; rw [enLess_irrefl] at this; cases this
      · exact e
theorem atE_get {L : List En} {i : Nat} (h : i < L.length) : atE L i = L[i] := by simp [atE, h]
/-- what is right rises -/
theorem area_rise {L : List En} (h : areaB L = true) : RiseE L := by
  have hp := (areaB_parts h).2
  have step : ∀ i, i + 1 < L.length → enLess (atE L i) (atE L (i + 1)) = true := fun i hi => by
    have := (hp (i + 1) hi).2.1
    unfold riseB at this
    rw [Nat.add_sub_cancel, decide_eq_false (by omega), Bool.false_or] at this
    exact this
  have far : ∀ d i, i + d + 1 < L.length → enLess (atE L i) (atE L (i + d + 1)) = true := by
    intro d
    induction d with
    | zero => intro i hi; exact step i hi
    | succ d ih => intro i hi; exact enLess_trans (ih i (by omega)) (step (i + d + 1) hi)
  rw [RiseE, List.pairwise_iff_getElem]
  intro i j hi hj hij
  have := far (j - i - 1) i (by omega)
  rw [show i + (j - i - 1) + 1 = j by omega, atE_get hi, atE_get hj] at this
  exact this
theorem area_small {L : List En} (h : areaB L = true) : ∀ e, e ∈ L → smallE e ∧ e.ke.size ≤ 200 ∧ e.na.size ≤ 20 ∧ e.va.size ≤ 40 := by
  intro e he
  obtain ⟨i, hi, rfl⟩ := List.mem_iff_getElem.1 he
  have := enB_parts ((areaB_parts h).2 i hi).1
  rw [atE_get hi] at this
  exact ⟨⟨by omega, by omega, by omega⟩, by omega, by omega, by omega⟩
end Go.Proofs.YtimmoclemcnhnaaDoor

/- Rooms as plain functions: those of one key, all others, the bytes and the names of one. -/
namespace Go.Proofs.YtimmoclemcnhnaaDoor
open Go.RowKit Go.Maps

def isKey (key : ByteArray) (e : En) : Bool := e.ke.toList == key.toList
def roomL (L : List En) (key : ByteArray) : List En := L.filter (isKey key)
def otherL (L : List En) (key : ByteArray) : List En := L.filter (fun e => !isKey key e)
def clearedL (L : List En) (key : ByteArray) : List En := if (areaB L && keyB key) = true then otherL L key else []
def usedI (L : List En) (key : ByteArray) : Nat := if (areaB L && keyB key) = true then usedN L key else 0
def namesL (L : List En) (key : ByteArray) : List ByteArray := if (areaB L && keyB key) = true then (roomL L key).map En.na else []
/-- those of the first k that stay -/
def stayE (p : En → Bool) (L : List En) (k : Nat) : List En := (L.take k).filter p
theorem stayE_yes {p : En → Bool} {L : List En} {k : Nat} (hk : k < L.length) (h : p (atE L k) = true) : stayE p L (k + 1) = stayE p L k ++ [atE L k] := by
  rw [atE_get hk] at *
  unfold stayE
  rw [← List.take_append_getElem hk, List.filter_append, List.filter_cons_of_pos h, List.filter_nil]
theorem stayE_no {p : En → Bool} {L : List En} {k : Nat} (hk : k < L.length) (h : p (atE L k) = false) : stayE p L (k + 1) = stayE p L k := by
  rw [atE_get hk] at *
  unfold stayE
  rw [← List.take_append_getElem hk, List.filter_append, List.filter_cons_of_neg (by rw [h]; simp), List.filter_nil, List.append_nil]
theorem stayE_all (p : En → Bool) (L : List En) : stayE p L L.length = L.filter p := by unfold stayE; rw [List.take_length]
theorem stayE_zero (p : En → Bool) (L : List En) : stayE p L 0 = [] := by unfold stayE; rw [List.take_zero]; rfl
theorem stayE_len (p : En → Bool) (L : List En) (k : Nat) : (stayE p L k).length ≤ L.length := Nat.le_trans (List.length_filter_le _ _) (by rw [List.length_take]; omega)
/-- the bytes of the first k -/
def sumTo (L : List En) : Nat → Nat
  | 0 => 0
  | k + 1 => sumTo L k + enN (atE L k)
theorem sumTo_app (L : List En) (e : En) : ∀ k, k ≤ L.length → sumTo (L ++ [e]) k = sumTo L k
  | 0, _ => rfl
  | k + 1, h => by
    rw [sumTo, sumTo, sumTo_app L e k (by omega), atE_get (by omega : k < L.length), atE_get (by rw [List.length_append]; simp; omega : k < (L ++ [e]).length), List.getElem_append_left]
theorem sumTo_snoc (L : List En) (e : En) : sumTo (L ++ [e]) (L ++ [e]).length = sumTo L L.length + enN e := by
  rw [List.length_append]
  show sumTo _ (L.length + 1) = _
  rw [sumTo, sumTo_app L e _ (Nat.le_refl _), atE_get (by rw [List.length_append]; simp)]
  simp
theorem used_stay (L : List En) (key : ByteArray) : ∀ k, k ≤ L.length → usedTo L key k = sumTo (stayE (isKey key) L k) (stayE (isKey key) L k).length
  | 0, _ => by rw [stayE_zero]; rfl
  | k + 1, h => by
    rw [usedTo, used_stay L key k (by omega)]
    cases hq : ((atE L k).ke.toList == key.toList) with
    | true => rw [if_pos rfl, stayE_yes (by omega) hq, sumTo_snoc]
    | false => rw [if_neg (by decide), stayE_no (by omega) hq, Nat.add_zero]
theorem used_room (L : List En) (key : ByteArray) : usedN L key = sumTo (roomL L key) (roomL L key).length := by
  unfold usedN roomL
  rw [used_stay L key _ (Nat.le_refl _), stayE_all]
theorem rise_filter {L : List En} (h : RiseE L) (p : En → Bool) : RiseE (L.filter p) := h.sublist List.filter_sublist
/-- what is left when all of a room are dropped -/
theorem others_of {L M : List En} {key : ByteArray} (hs : ∀ e, e ∈ L → smallE e) (h : ∀ x, x ∈ M ↔ x ∈ L ∧ ∀ j, j < (roomL L key).length → keyE x ≠ keyE (atE (roomL L key) j)) : ∀ x, x ∈ otherL L key ↔ x ∈ M := by
  intro x
  rw [h x]
  unfold otherL
  rw [List.mem_filter]
  constructor
  · rintro ⟨hx, hk⟩
    refine ⟨hx, fun j hj e => ?_⟩
    have hm : (roomL L key)[j] ∈ roomL L key := List.getElem_mem hj
    rw [atE_get hj] at e
    generalize (roomL L key)[j] = y at *
    unfold roomL at hm
    obtain ⟨hy, hyk⟩ := List.mem_filter.1 hm
    have := keyE_inj (hs x hx) (hs y hy) e
    unfold isKey at hk hyk
    rw [this.1] at hk
    rw [hyk] at hk; cases hk
  · rintro ⟨hx, hk⟩
    refine ⟨hx, ?_⟩
    cases hq : isKey key x with
    | false => rfl
    | true =>
      exfalso
      have hm : x ∈ roomL L key := List.mem_filter.2 ⟨hx, hq⟩
      obtain ⟨j, hj, e⟩ := List.mem_iff_getElem.1 hm
      exact hk j hj (by rw [atE_get hj, e])
theorem isKey_data (key : ByteArray) (e : En) : isKey key e = (e.ke.toList == key.toList) := rfl
end Go.Proofs.YtimmoclemcnhnaaDoor

/- Putting, getting, dropping in an area, as plain functions. -/
namespace Go.Proofs.YtimmoclemcnhnaaDoor
open Go.RowKit Go.Maps

/-- what an area's function answers: an area, a value, a code -/
structure AO where
  ar : List En
  va : ByteArray
  co : Int
def emptyT : ByteArray := ⟨#[]⟩
def illO (c : Int) : AO := ⟨[], emptyT, c⟩
/-- the code of what is handed in -/
def beginI (L : List En) (key name value : ByteArray) : Int :=
  if (decide (L.length ≤ 400) && decide (key.size ≤ 8000) && decide (name.size ≤ 8000) && decide (value.size ≤ 8000)) = true then (if (areaB L && keyB key && nameB name && valB value) = true then 0 else 1) else 2
theorem beginI_ok {L : List En} {key name value : ByteArray} (h : beginI L key name value = 0) : areaB L = true ∧ keyB key = true ∧ nameB name = true ∧ valB value = true := by
  unfold beginI at h
  split at h
  · split at h
    · rename_i h2
      simp only [Bool.and_eq_true] at h2
      exact ⟨h2.1.1.1, h2.1.1.2, h2.1.2, h2.2⟩
    · cases h
  · cases h
theorem beginI_size {L : List En} {key name value : ByteArray} (h : (decide (L.length ≤ 400) && decide (key.size ≤ 8000) && decide (name.size ≤ 8000) && decide (value.size ≤ 8000)) = false) : beginI L key name value = 2 := by unfold beginI; rw [if_neg (by rw [h]; decide)]
theorem beginI_fit {L : List En} {key name value : ByteArray} (h : (decide (L.length ≤ 400) && decide (key.size ≤ 8000) && decide (name.size ≤ 8000) && decide (value.size ≤ 8000)) = true) : beginI L key name value = if (areaB L && keyB key && nameB name && valB value) = true then 0 else 1 := by unfold beginI; rw [if_pos h]
theorem keyB_size {k : ByteArray} (h : keyB k = true) : 1 ≤ k.size ∧ k.size ≤ 200 := by
  unfold keyB at h
  simp only [Bool.and_eq_true, decide_eq_true_eq] at h; exact h
theorem nameB_size {k : ByteArray} (h : nameB k = true) : k.size ≤ 20 := by
  unfold nameB at h
  simp only [decide_eq_true_eq] at h; exact h.2.1
theorem valB_size {k : ByteArray} (h : valB k = true) : k.size ≤ 40 := by
  unfold valB at h
  exact of_decide_eq_true h
/-- of this place -/
def isAt (key name : ByteArray) (e : En) : Bool := (e.ke.toList == key.toList) && (e.na.toList == name.toList)
def seekE (L : List En) (key name : ByteArray) : Option En := L.find? (isAt key name)
def withoutE (L : List En) (key name : ByteArray) : List En := L.filter (fun e => !isAt key name e)
def putE (L : List En) (x : En) : List En := L.filter (fun e => enLess e x) ++ x :: L.filter (fun e => enLess x e)
def getO (L : List En) (key name : ByteArray) : AO := if beginI L key name emptyT = 0 then (match seekE L key name with | none => illO 6 | some e => ⟨L, e.va, 0⟩) else illO (beginI L key name emptyT)
def dropO (L : List En) (key name : ByteArray) : AO := if beginI L key name emptyT = 0 then (match seekE L key name with | none => illO 6 | some _ => ⟨withoutE L key name, emptyT, 0⟩) else illO (beginI L key name emptyT)
def putO (L : List En) (key name value : ByteArray) : AO := if beginI L key name value = 0 then (if areaB (putE L ⟨key, name, value⟩) = true then ⟨putE L ⟨key, name, value⟩, value, 0⟩ else illO 9) else illO (beginI L key name value)
theorem putE_rise {L : List En} (h : RiseE L) (x : En) : RiseE (putE L x) := by
  unfold putE
  rw [RiseE, List.pairwise_append]
  refine ⟨rise_filter h _, List.pairwise_cons.2 ⟨fun e he => (List.mem_filter.1 he).2, rise_filter h _⟩, fun a ha b hb => ?_⟩
  have h1 := (List.mem_filter.1 ha).2
  rcases List.mem_cons.1 hb with rfl | hb
  · exact h1
  · exact enLess_trans h1 (List.mem_filter.1 hb).2
theorem putE_mem {L : List En} {x : En} (hx : smallE x) (hs : ∀ e, e ∈ L → smallE e) : ∀ y, y ∈ putE L x ↔ y = x ∨ (y ∈ L ∧ keyE y ≠ keyE x) := by
  intro y
  unfold putE
  rw [List.mem_append, List.mem_cons, List.mem_filter, List.mem_filter]
  constructor
  · rintro (⟨h1, h2⟩ | rfl | ⟨h1, h2⟩)
    · exact .inr ⟨h1, less_ne (hs y h1) hx h2⟩
    · exact .inl rfl
    · exact .inr ⟨h1, (less_ne hx (hs y h1) h2).symm⟩
  · rintro (rfl | ⟨h1, h2⟩)
    · exact .inr (.inl rfl)
    · cases h3 : enLess y x with
      | true => exact .inl ⟨h1, rfl⟩
      | false =>
        cases h4 : enLess x y with
        | true => exact .inr (.inr ⟨h1, rfl⟩)
        | false => exact absurd (keyE_of (enLess_same h3 h4)) h2
theorem putE_len (L : List En) (x : En) : (putE L x).length ≤ L.length + 1 := by
  unfold putE
  rw [List.length_append, List.length_cons]
  have : ∀ (M : List En), (M.filter (fun e => enLess e x)).length + (M.filter (fun e => enLess x e)).length ≤ M.length := by
    intro M
    induction M with
    | nil => exact Nat.le_refl _
    | cons a M ih =>
      rw [List.filter_cons, List.filter_cons]
      by_cases h1 : enLess a x = true
      · rw [if_pos h1, if_neg (by rw [enLess_asymm h1]; decide), List.length_cons, List.length_cons]; omega
      · rw [if_neg h1]
        split
        · rw [List.length_cons, List.length_cons]; omega
        · rw [List.length_cons]; omega
  have := this L
  omega
/-- a place among entries -/
def atPl (key name : ByteArray) : En := ⟨key, name, ⟨#[]⟩⟩
theorem isAt_iff {key name : ByteArray} {e : En} (hk : key.size ≤ 200) (hn : name.size ≤ 200) (he : smallE e) : isAt key name e = true ↔ keyE e = plK key name := by
  have hp : smallE (atPl key name) := ⟨hk, hn, Nat.zero_le _⟩
  unfold isAt
  rw [Bool.and_eq_true, beq_iff_eq, beq_iff_eq]
  constructor
  · rintro ⟨h1, h2⟩
    simp only [Lib.toList_data] at h1 h2
    exact keyE_of (b := atPl key name) ⟨h1, h2⟩
  · intro h
    have := keyE_inj he hp h
    simp only [Lib.toList_data]
    exact ⟨by rw [this.1]; rfl, by rw [this.2]; rfl⟩
theorem seekE_some {L : List En} {key name : ByteArray} {e : En} (hk : key.size ≤ 200) (hn : name.size ≤ 200) (hs : ∀ e, e ∈ L → smallE e) (hone : ∀ a b, a ∈ L → b ∈ L → keyE a = keyE b → a = b) (he : e ∈ L) (h : keyE e = plK key name) : seekE L key name = some e := by
  unfold seekE
  cases hf : L.find? (isAt key name) with
  | none =>
    have := List.find?_eq_none.1 hf e he
    exact absurd ((isAt_iff hk hn (hs e he)).2 h) this
  | some y =>
    have hy := List.mem_of_find?_eq_some hf
    have h2 := List.find?_some hf
    rw [hone y e hy he (((isAt_iff hk hn (hs y hy)).1 h2).trans h.symm)]
theorem seekE_none {L : List En} {key name : ByteArray} (hk : key.size ≤ 200) (hn : name.size ≤ 200) (hs : ∀ e, e ∈ L → smallE e) (h : ∀ e, e ∈ L → keyE e ≠ plK key name) : seekE L key name = none := by
  unfold seekE
  rw [List.find?_eq_none]
  exact fun e he h2 => h e he ((isAt_iff hk hn (hs e he)).1 h2)
theorem seekE_mem {L : List En} {key name : ByteArray} {e : En} (h : seekE L key name = some e) : e ∈ L ∧ isAt key name e = true := ⟨List.mem_of_find?_eq_some h, List.find?_some h⟩
theorem withoutE_mem {L : List En} {key name : ByteArray} {e : En} (hk : key.size ≤ 200) (hn : name.size ≤ 200) (hs : ∀ e, e ∈ L → smallE e) (h : seekE L key name = some e) : ∀ x, x ∈ withoutE L key name ↔ x ∈ L ∧ keyE x ≠ keyE e := by
  intro x
  obtain ⟨h1, h2⟩ := seekE_mem h
  unfold withoutE
  rw [List.mem_filter]
  constructor
  · rintro ⟨h3, h4⟩
    refine ⟨h3, fun e2 => ?_⟩
    rw [(isAt_iff hk hn (hs x h3)).2 (e2.trans ((isAt_iff hk hn (hs e h1)).1 h2))] at h4; cases h4
  · rintro ⟨h3, h4⟩
    refine ⟨h3, ?_⟩
    cases hq : isAt key name x with
    | false => rfl
    | true => exact absurd (((isAt_iff hk hn (hs x h3)).1 hq).trans ((isAt_iff hk hn (hs e h1)).1 h2).symm) h4
end Go.Proofs.YtimmoclemcnhnaaDoor

/- Where an owned row lies. -/
namespace Go.Proofs.YtimmoclemcnhnaaDoor
open Go.RowKit
theorem own_base {w : World} {B n sz : Nat} {e : TypeId} {v : Value} {xs : List Value} (h : w.ownsRow B e sz v n xs) : ∀ j, v.ownBlock = some j → B ≤ j := by
  intro j hj
  obtain ⟨_, ⟨rfl, _⟩ | ⟨g, cap, cur, rfl, hB, _⟩⟩ := h
  · cases hj
  · have : g = j := Option.some.inj hj
    omega
end Go.Proofs.YtimmoclemcnhnaaDoor

/- Rows of entrys that a call owns. Written by rowsown.py. -/
namespace Go.Proofs.YtimmoclemcnhnaaDoor
open Go.RowKit

/-- the cells of one -/
def enVals (c : En) : List Value := [.string c.ke, .string c.na, .string c.va]
def enCells : List En → List Value
  | [] => []
  | c :: L => enVals c ++ enCells L
theorem enCells_snoc (L : List En) (c : En) : enCells L ++ enVals c = enCells (L ++ [c]) := by
  induction L with
  | nil => simp [enCells]
  | cons q L ih => simp only [enCells, List.cons_append, List.append_assoc, ih]
theorem enCells_len (L : List En) : (enCells L).length = L.length * 3 := by
  induction L with
  | nil => rfl
  | cons q L ih => simp only [enCells, List.length_append, ih, List.length_cons]; show 3 + _ = _; omega
theorem enVals_at (c : En) : ∀ o, o < 3 → (enVals c)[o]? = some (enC c o)
  | 0, _ => rfl
  | 1, _ => rfl
  | 2, _ => rfl
theorem enCells_at : ∀ (L : List En) (j : Nat), j < L.length → ∀ o, o < 3 → (enCells L)[j * 3 + o]? = some (enR L j o)
  | [], j, h, _, _ => by simp at h
  | c :: L, 0, _, o, ho => by
    rw [Nat.zero_mul, Nat.zero_add, enCells, List.getElem?_append_left (by show o < 3; exact ho), enVals_at c o ho]
    rfl
  | c :: L, j + 1, h, o, ho => by
    have ih := enCells_at L j (by simpa using h) o ho
    have hl : (enVals c).length = 3 := rfl
    rw [enCells, List.getElem?_append_right (by rw [hl]; omega), hl, show (j + 1) * 3 + o - 3 = j * 3 + o by omega, ih]
    simp [enR, atE]
theorem sliceE_of_own {w : World} {B : Nat} {t : TypeId} {v : Value} {L : List En} (h : w.ownsRow B t 3 v L.length (enCells L)) : SliceE w B v L := by
  refine ⟨sliceR_of_own h (enCells_at L), ?_⟩
  obtain ⟨_, ⟨rfl, h0⟩ | ⟨g, cap, cur, rfl, _, _, hc, _⟩⟩ := h
  · exact ⟨none, 0, by rw [h0], by omega, fun _ => rfl⟩
  · exact ⟨_, cap, rfl, hc, fun h => by cases h⟩
theorem sliceE_none (w : World) (B : Nat) : SliceE w B (.slice none 0 0) [] := ⟨sliceR_none _ _ _ _ _ _, none, 0, rfl, Nat.le_refl _, fun _ => rfl⟩
theorem cell_En (w : World) (c : En) (t : TypeId) : ∀ j u, (enVals c)[j]? = some u → (w.alloc (.cells #[.string c.ke, .string c.na, .string c.va] t)).cell? ((⟨w.heap.size, 0, none⟩ : Addr).add j) = some u := by
  intro j u h
  have e : (⟨w.heap.size, 0, none⟩ : Addr).add j = ⟨w.heap.size, j, none⟩ := by unfold Addr.add; split <;> simp_all
  rw [e, World.cell?_alloc_new, ← Array.getElem?_toList]
  exact h
theorem one_En (c : En) : ∀ v ∈ enVals c, v.oneCell' = true := by
  intro u hu
  simp only [enVals, List.mem_cons, List.not_mem_nil, or_false] at hu
  rcases hu with rfl | rfl | rfl <;> rfl
/-- a row of them, kept while other blocks are written -/
theorem ownE_keep {w w' : World} {B n sz : Nat} {row : Option Nat} {e : TypeId} {v : Value} {xs : List Value} (h : w.ownsRow B e sz v n xs) (hg : w.grownBy w' row) (hne : ∀ g, v.ownBlock = some g → row ≠ some g) : w'.ownsRow B e sz v n xs := by
  obtain ⟨hl, h0 | ⟨g, cap, cur, rfl, hbg, hh, r⟩⟩ := h
  · exact ⟨hl, .inl h0⟩
  · have hgl : g < w.heap.size := (Array.getElem?_eq_some_iff.mp hh).1
    exact ⟨hl, .inr ⟨g, cap, cur, rfl, hbg, by rw [hg.block g hgl (fun e => hne g rfl e.symm)]; exact hh, r⟩⟩
end Go.Proofs.YtimmoclemcnhnaaDoor

/- The box of an answer of an area's functions. -/
namespace Go.Proofs.YtimmoclemcnhnaaDoor
open Go.RowKit

/-- an answer's value -/
def AnsE (w : World) (B : Nat) (v : Value) (x : AO) : Prop := ∃ s, v = .agg #[s, .string x.va, .int .i64 x.co] ∧ SliceE w B s x.ar
theorem AnsE.below {w w' : World} {B : Nat} {v : Value} {x : AO} (h : AnsE w B v x) (hb : Below w.heap.size w w') : AnsE w' B v x := by
  obtain ⟨s, rfl, hs⟩ := h
  exact ⟨s, rfl, hs.below hb⟩
/-- an empty answer lies in the block -/
structure BoxAt (W : World) (b : Nat) : Prop where
  c0 : W.cell? ⟨b, 0, none⟩ = some (.slice none 0 0)
  c1 : W.cell? ⟨b, 1, none⟩ = some (.string ⟨#[]⟩)
  c2 : W.cell? ⟨b, 2, none⟩ = some (.int .i64 0)
  f0 : W.frozen? ⟨b, 0, none⟩ = false
  f1 : W.frozen? ⟨b, 1, none⟩ = false
  f2 : W.frozen? ⟨b, 2, none⟩ = false
  lt : b < W.heap.size
theorem BoxAt.of_block {W W' : World} {b : Nat} (h : BoxAt W b) (hb : W'.heap[b]? = W.heap[b]?) (hs : W.heap.size ≤ W'.heap.size) : BoxAt W' b :=
  ⟨by rw [World.cell?_of_block (a := ⟨b, 0, none⟩) hb]; exact h.c0, by rw [World.cell?_of_block (a := ⟨b, 1, none⟩) hb]; exact h.c1, by rw [World.cell?_of_block (a := ⟨b, 2, none⟩) hb]; exact h.c2,
   by rw [World.frozen?_of_block (a := ⟨b, 0, none⟩) hb]; exact h.f0, by rw [World.frozen?_of_block (a := ⟨b, 1, none⟩) hb]; exact h.f1, by rw [World.frozen?_of_block (a := ⟨b, 2, none⟩) hb]; exact h.f2, Nat.lt_of_lt_of_le h.lt hs⟩
theorem BoxAt.below {W W' : World} {b : Nat} (h : BoxAt W b) (hb : Below W.heap.size W W') : BoxAt W' b := h.of_block (hb.block b h.lt) hb.size
theorem BoxAt.grown {W W' : World} {b G : Nat} (h : BoxAt W b) (hg : W.grownBy W' (some G)) (hne : b ≠ G) : BoxAt W' b := h.of_block (hg.block b h.lt (fun e => hne (Option.some.inj e))) hg.size
theorem box_made (w : World) (t : TypeId) : BoxAt (w.alloc (.cells #[.slice none 0 0, .string ⟨#[]⟩, .int .i64 0] t)) w.heap.size := ⟨by simp, by simp, by simp, by simp, by simp, by simp, by simp⟩
theorem store3_below {w W : World} {b : Nat} {x y z : Value} (h : Below b w W) : Below b w (((W.setCell ⟨b, 0, none⟩ x).setCell ⟨b, 1, none⟩ y).setCell ⟨b, 2, none⟩ z) :=
  Below.setCell (Below.setCell (Below.setCell h (Nat.le_refl b) _) (Nat.le_refl b) _) (Nat.le_refl b) _
/-- a slice stays while an answer's box below it is written -/
theorem SliceE.store3 {W : World} {b B : Nat} {v x y z : Value} {L : List En} (h : SliceE W B v L) (hb : b < B) : SliceE (((W.setCell ⟨b, 0, none⟩ x).setCell ⟨b, 1, none⟩ y).setCell ⟨b, 2, none⟩ z) B v L := by
  have hz : (((W.setCell ⟨b, 0, none⟩ x).setCell ⟨b, 1, none⟩ y).setCell ⟨b, 2, none⟩ z).heap.size = W.heap.size := by simp
  have hk : ∀ k, k ≠ b → (((W.setCell ⟨b, 0, none⟩ x).setCell ⟨b, 1, none⟩ y).setCell ⟨b, 2, none⟩ z).heap[k]? = W.heap[k]? := fun k hk => by
    simp only [World.setCell, Array.getElem?_modify]
    rw [if_neg (Ne.symm hk), if_neg (Ne.symm hk), if_neg (Ne.symm hk)]
  obtain ⟨⟨p, cap, rfl, hg⟩, h2⟩ := h
  refine ⟨⟨p, cap, rfl, fun hn => ?_⟩, h2⟩
  obtain ⟨g, rfl, hB, hgw, hc⟩ := hg hn
  refine ⟨g, rfl, hB, by rw [hz]; exact hgw, fun j hj o ho => ⟨?_, ?_⟩⟩
  · rw [World.cell?_of_block (a := ⟨g, j * 3 + o, none⟩) (hk g (by omega))]; exact (hc j hj o ho).1
  · rw [World.frozen?_of_block (a := ⟨g, j * 3 + o, none⟩) (hk g (by omega))]; exact (hc j hj o ho).2
end Go.Proofs.YtimmoclemcnhnaaDoor

/- The walks of the specification's l07Ill, l07Begin, l07At. -/
namespace Go.Proofs.YtimmoclemcnhnaaDoor
open Go.RowKit

set_option maxRecDepth 10000 in
set_option maxHeartbeats 4000000 in
theorem specIll_any (c : Int) (w : World) : Calls Tryd.prog 89 #[.int .i64 c] w fun e w' => e = .returned (.agg #[.slice none 0 0, .string ⟨#[]⟩, .int .i64 c]) ∧ Below w.heap.size w w' := by
  go_enter Tryd.func89, Tryd.ntmps89
  go_wp2
  refine bodyPost_ret (v := .agg #[.slice none 0 0, .string ⟨#[]⟩, .int .i64 c]) (by simp [results, Tryd.results89, go_sem]) rfl ⟨rfl, ?_⟩
  exact (Below.refl _ _).alloc (Nat.le_refl _) _
set_option maxRecDepth 10000 in
set_option maxHeartbeats 8000000 in
theorem specBegin_any (v : Value) (L : List En) (key name value : ByteArray) (B : Nat) (w : World) (hs : SliceE w B v L) (hn : L.length ≤ 1048576) (hz : ∀ i, i < L.length → (atE L i).na.size ≤ 1048576 ∧ (atE L i).va.size ≤ 1048576) (hna : name.size ≤ 1048576) :
    Calls Tryd.prog 88 #[v, .string key, .string name, .string value] w fun e w' => e = .returned (.int .i64 (beginI L key name value)) ∧ Below w.heap.size w w' := by
  have KA : Hid (Calls Tryd.prog 135 #[v] w fun e w' => e = .returned (.bool (areaB L)) ∧ Below w.heap.size w w') := specArea_any v L B w hs hn hz
  have KK : Hid (∀ W, Calls Tryd.prog 136 #[.string key] W fun e w' => e = .returned (.bool (keyB key)) ∧ w' = W) := fun W => specKey_any key W
  have KN : Hid (∀ W, Calls Tryd.prog 137 #[.string name] W fun e w' => e = .returned (.bool (nameB name)) ∧ w' = W) := fun W => specName_any name W (by unfold maxLen; omega)
  have HS : Hid ((decide (L.length ≤ 400) && decide (key.size ≤ 8000) && decide (name.size ≤ 8000) && decide (value.size ≤ 8000)) = false → beginI L key name value = 2) := beginI_size
  have HF : Hid ((decide (L.length ≤ 400) && decide (key.size ≤ 8000) && decide (name.size ≤ 8000) && decide (value.size ≤ 8000)) = true → beginI L key name value = if (areaB L && keyB key && nameB name && valB value) = true then 0 else 1) := beginI_fit
  obtain ⟨⟨p, cap, rfl, -⟩, -⟩ := hs
  clear hz
  generalize beginI L key name value = bi at *
  by_cases h1 : L.length ≤ 400
  case neg =>
    have q1 : decide ((400 : Int) < (L.length : Int)) = true := by rw [decide_eq_true_iff]; omega
    have HB : Hid (bi = 2) := HS.out (by rw [decide_eq_false h1]; rfl)
    go_enter Tryd.func88, Tryd.ntmps88
    go_wp2
    go_ret
    exact ⟨ret_int HB.out.symm, Below.refl _ _⟩
  have q1 : decide ((400 : Int) < (L.length : Int)) = false := by rw [decide_eq_false_iff_not]; omega
  by_cases h2 : key.size ≤ 8000
  case neg =>
    have q2 : decide ((8000 : Int) < (key.size : Int)) = true := by rw [decide_eq_true_iff]; omega
    have HB : Hid (bi = 2) := HS.out (by rw [decide_eq_false h2, Bool.and_false]; rfl)
    go_enter Tryd.func88, Tryd.ntmps88
    go_wp2
    go_ret
    exact ⟨ret_int HB.out.symm, Below.refl _ _⟩
  have q2 : decide ((8000 : Int) < (key.size : Int)) = false := by rw [decide_eq_false_iff_not]; omega
  by_cases h3 : name.size ≤ 8000
  case neg =>
    have q3 : decide ((8000 : Int) < (name.size : Int)) = true := by rw [decide_eq_true_iff]; omega
    have HB : Hid (bi = 2) := HS.out (by rw [decide_eq_false h3, Bool.and_false]; rfl)
    go_enter Tryd.func88, Tryd.ntmps88
    go_wp2
    go_ret
    exact ⟨ret_int HB.out.symm, Below.refl _ _⟩
  have q3 : decide ((8000 : Int) < (name.size : Int)) = false := by rw [decide_eq_false_iff_not]; omega
  by_cases h4 : value.size ≤ 8000
  case neg =>
    have q4 : decide ((8000 : Int) < (value.size : Int)) = true := by rw [decide_eq_true_iff]; omega
    have HB : Hid (bi = 2) := HS.out (by rw [decide_eq_false h4, Bool.and_false])
    go_enter Tryd.func88, Tryd.ntmps88
    go_wp2
    go_ret
    exact ⟨ret_int HB.out.symm, Below.refl _ _⟩
  have q4 : decide ((8000 : Int) < (value.size : Int)) = false := by rw [decide_eq_false_iff_not]; omega
  have HB := HF.out (by rw [decide_eq_true h1, decide_eq_true h2, decide_eq_true h3, decide_eq_true h4]; rfl)
  have HV : Hid (valB value = decide (value.size ≤ 40)) := rfl
  generalize areaB L = ba at *
  generalize keyB key = bk at *
  generalize nameB name = bn at *
  cases ba with
  | false =>
    have HB1 : Hid (bi = 1) := by show _ = _; rw [HB]; rfl
    clear HB HS HF
    go_enter Tryd.func88, Tryd.ntmps88
    go_wp2_with fail
    refine KA.out.mono ?_
    rintro e w1 ⟨rfl, hb1⟩
    go_wp2
    go_ret
    exact ⟨ret_int HB1.out.symm, hb1⟩
  | true =>
  cases bk with
  | false =>
    have HB1 : Hid (bi = 1) := by show _ = _; rw [HB]; rfl
    clear HB HS HF
    go_enter Tryd.func88, Tryd.ntmps88
    go_wp2_with fail
    refine KA.out.mono ?_
    rintro e w1 ⟨rfl, hb1⟩
    go_wp2_with fail
    refine (KK.out _).mono ?_
    rintro e w2 ⟨rfl, rfl⟩
    go_wp2
    go_ret
    exact ⟨ret_int HB1.out.symm, hb1⟩
  | true =>
  cases bn with
  | false =>
    have HB1 : Hid (bi = 1) := by show _ = _; rw [HB]; rfl
    clear HB HS HF
    go_enter Tryd.func88, Tryd.ntmps88
    go_wp2_with fail
    refine KA.out.mono ?_
    rintro e w1 ⟨rfl, hb1⟩
    go_wp2_with fail
    refine (KK.out _).mono ?_
    rintro e w2 ⟨rfl, rfl⟩
    go_wp2_with fail
    refine (KN.out _).mono ?_
    rintro e w2 ⟨rfl, rfl⟩
    go_wp2
    go_ret
    exact ⟨ret_int HB1.out.symm, hb1⟩
  | true =>
  by_cases h5 : value.size ≤ 40
  · have q5 : decide ((40 : Int) < (value.size : Int)) = false := by rw [decide_eq_false_iff_not]; omega
    have HB1 : Hid (bi = 0) := by show _ = _; rw [HB, HV.out, decide_eq_true h5]; rfl
    clear HB HS HF
    go_enter Tryd.func88, Tryd.ntmps88
    go_wp2_with fail
    refine KA.out.mono ?_
    rintro e w1 ⟨rfl, hb1⟩
    go_wp2_with fail
    refine (KK.out _).mono ?_
    rintro e w2 ⟨rfl, rfl⟩
    go_wp2_with fail
    refine (KN.out _).mono ?_
    rintro e w2 ⟨rfl, rfl⟩
    go_wp2
    go_ret
    exact ⟨ret_int HB1.out.symm, hb1⟩
  · have q5 : decide ((40 : Int) < (value.size : Int)) = true := by rw [decide_eq_true_iff]; omega
    have HB1 : Hid (bi = 1) := by show _ = _; rw [HB, HV.out, decide_eq_false h5]; rfl
    clear HB HS HF
    go_enter Tryd.func88, Tryd.ntmps88
    go_wp2_with fail
    refine KA.out.mono ?_
    rintro e w1 ⟨rfl, hb1⟩
    go_wp2_with fail
    refine (KK.out _).mono ?_
    rintro e w2 ⟨rfl, rfl⟩
    go_wp2_with fail
    refine (KN.out _).mono ?_
    rintro e w2 ⟨rfl, rfl⟩
    go_wp2
    go_ret
    exact ⟨ret_int HB1.out.symm, hb1⟩
theorem seek_at {L : List En} {key name : ByteArray} {k : Nat} (hk : k < L.length) (h : isAt key name (atE L k) = true) (hb : ∀ j, j < k → isAt key name (atE L j) = false) : seekE L key name = some (atE L k) := by
  unfold seekE
  rw [atE_get hk] at *
  rw [List.find?_eq_some_iff_getElem]
  refine ⟨h, k, hk, rfl, fun j hj => ?_⟩
  have := hb j hj
  rw [atE_get (by omega)] at this
  rw [this]; rfl
theorem seek_no {L : List En} {key name : ByteArray} (hb : ∀ j, j < L.length → isAt key name (atE L j) = false) : seekE L key name = none := by
  unfold seekE
  rw [List.find?_eq_none]
  intro e he h
  obtain ⟨j, hj, rfl⟩ := List.mem_iff_getElem.1 he
  have := hb j hj
  rw [atE_get hj, h] at this; cases this
set_option maxRecDepth 10000 in
set_option maxHeartbeats 8000000 in
theorem specAt_any (v : Value) (L : List En) (key name : ByteArray) (B : Nat) (w : World) (hs : SliceE w B v L) (hn : L.length ≤ 1048576) :
    Calls Tryd.prog 98 #[v, .string key, .string name] w fun e w' => ((∃ k, k < L.length ∧ seekE L key name = some (atE L k) ∧ e = .returned (.int .i64 (k : Nat))) ∨ (seekE L key name = none ∧ e = .returned (.int .i64 (-1)))) ∧ Below w.heap.size w w' := by
  obtain ⟨⟨p, cap, rfl, hg⟩, -⟩ := hs
  have HG : Hid (0 < L.length → ∃ g, p = some ⟨g, 0, none⟩ ∧ g < w.heap.size ∧ ∀ j, j < L.length → ∀ o, o < 3 → w.cell? ⟨g, j * 3 + o, none⟩ = some (enC (atE L j) o)) := fun h0 => by
    obtain ⟨g, e, -, hgw, hc⟩ := hg h0
    exact ⟨g, e, hgw, fun j hj o ho => (hc j hj o ho).1⟩
  have HY : Hid (∀ k, k < L.length → ((atE L k).ke.toList == key.toList) = true → ((atE L k).na.toList == name.toList) = true → (∀ j, j < k → isAt key name (atE L j) = false) → seekE L key name = some (atE L k)) := fun k hk h1 h2 hb => seek_at hk (by unfold isAt; rw [h1, h2]; rfl) hb
  have HN1 : Hid (∀ k, ((atE L k).ke.toList == key.toList) = false → isAt key name (atE L k) = false) := fun k h => by show _ = _; unfold isAt; rw [h]; rfl
  have HN2 : Hid (∀ k, ((atE L k).na.toList == name.toList) = false → isAt key name (atE L k) = false) := fun k h => by show _ = _; unfold isAt; rw [h, Bool.and_false]
  have HZ : Hid ((∀ j, j < L.length → isAt key name (atE L j) = false) → seekE L key name = none) := seek_no
  clear hg
  generalize seekE L key name = sk at *
  go_enter Tryd.func98, Tryd.ntmps98
  go_wp2
  go_loopw [7] (fun i wr => ∃ k : Nat, k ≤ L.length ∧ i = .int .i64 k ∧ Hid (∀ j, j < k → isAt key name (atE L j) = false) ∧ Hid (Below w.heap.size w wr)) (fun i _ => L.length - (intOf i).toNat)
  case atStart => exact ⟨0, Nat.zero_le _, rfl, fun j hj => absurd hj (by omega), Below.refl _ _⟩
  case round =>
    obtain ⟨k, hk, rfl, HM, HB⟩ := hrel
    by_cases hlt : k < L.length
    · obtain ⟨g, rfl, hgw, hc⟩ := HG.out (by omega)
      have k0 : (0 : Int) ≤ k := by omega
      have k1 : (k : Int) < L.length := by omega
      have c0 : wr.cell? ⟨g, k * 3, none⟩ = some (.string (atE L k).ke) := by rw [(bcell HB.out).1 _ _ hgw]; exact hc k hlt 0 (by omega)
      have c1 : wr.cell? ⟨g, k * 3 + 1, none⟩ = some (.string (atE L k).na) := by rw [(bcell HB.out).1 _ _ hgw]; exact hc k hlt 1 (by omega)
      have hy := HY.out k hlt
      have hn1 := HN1.out k
      have hn2 := HN2.out k
      have HK : Hid (isAt key name (atE L k) = false → ∀ j, j < k + 1 → isAt key name (atE L j) = false) := fun h j hj => by
        by_cases e : j = k
        · subst e; exact h
        · exact HM.out j (by omega)
      clear hc
      cases hq : ((atE L k).ke.toList == key.toList) with
      | false =>
        have HM1 : Hid (∀ j, j < k + 1 → isAt key name (atE L j) = false) := HK.out (hn1 hq)
        clear hy hn1 hn2 HK HM
        generalize atE L k = y at *
        obtain ⟨ke, na, va⟩ := y
        dsimp only at *
        go_wp2
        go_roundw
        case rel => exact ⟨k + 1, by omega, by go_num, HM1, HB⟩
        case measure => simp [intOf]; omega
      | true =>
        cases hq2 : ((atE L k).na.toList == name.toList) with
        | false =>
          have HM1 : Hid (∀ j, j < k + 1 → isAt key name (atE L j) = false) := HK.out (hn2 hq2)
          clear hy hn1 hn2 HK HM
          generalize atE L k = y at *
          obtain ⟨ke, na, va⟩ := y
          dsimp only at *
          go_wp2
          go_roundw
          case rel => exact ⟨k + 1, by omega, by go_num, HM1, HB⟩
          case measure => simp [intOf]; omega
        | true =>
          have HR : Hid (sk = some (atE L k)) := hy hq hq2 HM.out
          clear hy hn1 hn2 HK HM
          have HYk : Hid (∃ k', k' < L.length ∧ sk = some (atE L k') ∧ k' = k) := ⟨k, hlt, HR.out, rfl⟩
          generalize atE L k = y at *
          obtain ⟨ke, na, va⟩ := y
          dsimp only at *
          go_wp2
          go_ret
          obtain ⟨k', h1, h2, rfl⟩ := HYk.out
          exact ⟨.inl ⟨k', h1, h2, rfl⟩, HB.out⟩
    · obtain rfl : k = L.length := by omega
      have HR : Hid (sk = none) := HZ.out HM.out
      go_wp2
      go_ret
      exact ⟨.inr ⟨HR.out, rfl⟩, HB.out⟩
end Go.Proofs.YtimmoclemcnhnaaDoor

/- Parts of a row of entries: their cells. -/
namespace Go.Proofs.YtimmoclemcnhnaaDoor
open Go.RowKit

theorem enCells_app (A B : List En) : enCells (A ++ B) = enCells A ++ enCells B := by
  induction A with
  | nil => rfl
  | cons a A ih => simp only [List.cons_append, enCells, ih, List.append_assoc]
theorem one_cells : ∀ M : List En, ∀ v ∈ enCells M, v.oneCell' = true
  | [], v, h => by cases h
  | c :: M, v, h => by
    rw [enCells, List.mem_append] at h
    rcases h with h | h
    · exact one_En c v h
    · exact one_cells M v h
theorem cells_part {w : World} {g : Nat} {L : List En} (hc : ∀ j, j < L.length → ∀ o, o < 3 → w.cell? ⟨g, j * 3 + o, none⟩ = some (enC (atE L j) o)) (a : Nat) (M : List En) (hM : ∀ j, j < M.length → atE M j = atE L (a + j) ∧ a + j < L.length) :
    ∀ j u, (enCells M)[j]? = some u → w.cell? ((⟨g, a * 3, none⟩ : Addr).add j) = some u := by
  intro j u h
  have hlt : j < M.length * 3 := by
    have := (List.getElem?_eq_some_iff.1 h).1
    rw [enCells_len] at this; exact this
  have e : (⟨g, a * 3, none⟩ : Addr).add j = ⟨g, (a + j / 3) * 3 + j % 3, none⟩ := by
    have e1 : (⟨g, a * 3, none⟩ : Addr).add j = ⟨g, a * 3 + j, none⟩ := by unfold Addr.add; split <;> simp_all
    rw [e1, show a * 3 + j = (a + j / 3) * 3 + j % 3 by omega]
  obtain ⟨h1, h2⟩ := hM (j / 3) (by omega)
  have h3 := enCells_at M (j / 3) (by omega) (j % 3) (Nat.mod_lt _ (by decide))
  rw [show j / 3 * 3 + j % 3 = j by omega, h] at h3
  rw [e, hc _ h2 _ (Nat.mod_lt _ (by decide)), ← h1]
  exact h3.symm
theorem take_at {L : List En} {k : Nat} (hk : k ≤ L.length) : ∀ j, j < (L.take k).length → atE (L.take k) j = atE L (0 + j) ∧ 0 + j < L.length := by
  intro j hj
  have hj2 : j < k := by rw [List.length_take] at hj; omega
  refine ⟨?_, by omega⟩
  rw [atE_get hj, Nat.zero_add, atE_get (by omega), List.getElem_take]
theorem drop_at (L : List En) (k : Nat) : ∀ j, j < (L.drop k).length → atE (L.drop k) j = atE L (k + j) ∧ k + j < L.length := by
  intro j hj
  have hj2 : k + j < L.length := by rw [List.length_drop] at hj; omega
  refine ⟨?_, hj2⟩
  rw [atE_get hj, atE_get hj2, List.getElem_drop]
theorem split_at {L : List En} {k : Nat} (hk : k < L.length) : L = L.take k ++ atE L k :: L.drop (k + 1) := by
  rw [atE_get hk, ← List.drop_eq_getElem_cons hk, List.take_append_drop]
theorem isAt_same {key name : ByteArray} {a b : En} (ha : isAt key name a = true) (hb : isAt key name b = true) : enLess a b = false := by
  unfold isAt at ha hb
  rw [Bool.and_eq_true, beq_iff_eq, beq_iff_eq] at ha hb
  simp only [Lib.toList_data] at ha hb
  cases h : enLess a b with
  | false => rfl
  | true =>
    rw [enLess_iff, ha.1, ha.2, hb.1, hb.2] at h
    rcases h with h | h
    · exact absurd h (List.lt_irrefl _)
    · exact absurd h.2 (List.lt_irrefl _)
/-- without the one that is found -/
theorem without_cut {L : List En} {key name : ByteArray} {k : Nat} (hr : RiseE L) (hk : k < L.length) (h : seekE L key name = some (atE L k)) : withoutE L key name = L.take k ++ L.drop (k + 1) := by
  have hat := (seekE_mem h).2
  have e := split_at hk
  have hr2 : RiseE (L.take k ++ atE L k :: L.drop (k + 1)) := by rw [← e]; exact hr
  obtain ⟨-, h2, h3⟩ := List.pairwise_append.1 hr2
  obtain ⟨h4, -⟩ := List.pairwise_cons.1 h2
  have f1 : (L.take k).filter (fun e => !isAt key name e) = L.take k := by
    rw [List.filter_eq_self]
    intro x hx
    cases hq : isAt key name x with
    | false => rfl
    | true => have := isAt_same hq hat; rw [h3 x hx _ (by simp)] at this; cases this
  have f2 : (L.drop (k + 1)).filter (fun e => !isAt key name e) = L.drop (k + 1) := by
    rw [List.filter_eq_self]
    intro x hx
    cases hq : isAt key name x with
    | false => rfl
    | true => have := isAt_same hat hq; rw [h4 x hx] at this; cases this
  have : withoutE L key name = (L.take k ++ atE L k :: L.drop (k + 1)).filter (fun e => !isAt key name e) := by
    unfold withoutE
    exact congrArg (List.filter (fun e => !isAt key name e)) e
  rw [this, List.filter_append, f1, List.filter_cons_of_neg (by rw [hat]; decide), f2]
theorem filter_cut {p : En → Bool} {A B : List En} (ha : ∀ x, x ∈ A → p x = true) (hb : ∀ x, x ∈ B → p x = false) : (A ++ B).filter p = A := by
  rw [List.filter_append, List.filter_eq_self.2 ha, List.filter_eq_nil_iff.2 (fun x hx => by rw [hb x hx]; decide), List.append_nil]
theorem filter_tail {p : En → Bool} {A B : List En} (ha : ∀ x, x ∈ A → p x = false) (hb : ∀ x, x ∈ B → p x = true) : (A ++ B).filter p = B := by
  rw [List.filter_append, List.filter_eq_self.2 hb, List.filter_eq_nil_iff.2 (fun x hx => by rw [ha x hx]; decide), List.nil_append]
theorem take_all {L : List En} {k : Nat} {p : En → Prop} (h : ∀ j, j < k → j < L.length → p (atE L j)) : ∀ x, x ∈ L.take k → p x := by
  intro x hx
  obtain ⟨j, hj, rfl⟩ := List.mem_iff_getElem.1 hx
  have h1 : j < k := by rw [List.length_take] at hj; omega
  have h2 : j < L.length := by rw [List.length_take] at hj; omega
  have := h j h1 h2
  rw [atE_get h2] at this
  rw [List.getElem_take]; exact this
theorem drop_all {L : List En} {k : Nat} {p : En → Prop} (h : ∀ j, k ≤ j → j < L.length → p (atE L j)) : ∀ x, x ∈ L.drop k → p x := by
  intro x hx
  obtain ⟨j, hj, rfl⟩ := List.mem_iff_getElem.1 hx
  have h2 : k + j < L.length := by rw [List.length_drop] at hj; omega
  have := h (k + j) (by omega) h2
  rw [atE_get h2] at this
  rw [List.getElem_drop]; exact this
theorem rise_at {L : List En} (hr : RiseE L) {i j : Nat} (hij : i < j) (hj : j < L.length) : enLess (atE L i) (atE L j) = true := by
  rw [atE_get (by omega), atE_get hj]
  exact (List.pairwise_iff_getElem.1 hr) i j (by omega) hj hij
/-- where one is put: those ahead, it, those behind -/
theorem put_cut {L : List En} {x : En} {k : Nat} (hr : RiseE L) (hb : ∀ j, j < k → enLess (atE L j) x = true) (he : k < L.length → enLess (atE L k) x = false) :
    (k < L.length → isAt x.ke x.na (atE L k) = true → putE L x = L.take k ++ x :: L.drop (k + 1)) ∧ ((k < L.length → isAt x.ke x.na (atE L k) = false) → putE L x = L.take k ++ x :: L.drop k) := by
  have h1 : L.filter (fun e => enLess e x) = L.take k := by
    have e := (List.take_append_drop k L).symm
    refine (congrArg (List.filter (fun e => enLess e x)) e).trans (filter_cut (take_all (fun j hj _ => hb j hj)) (drop_all fun j hj hjl => ?_))
    cases hq : enLess (atE L j) x with
    | false => rfl
    | true =>
      have h2 := he (by omega)
      by_cases e : j = k
      · subst e; rw [h2] at hq; cases hq
      · have := enLess_trans (rise_at hr (show k < j by omega) hjl) hq
        rw [h2] at this; cases this
  constructor
  · intro hk hat
    have hsame : (atE L k).ke.data.toList = x.ke.data.toList ∧ (atE L k).na.data.toList = x.na.data.toList := by
      unfold isAt at hat
      rw [Bool.and_eq_true, beq_iff_eq, beq_iff_eq] at hat
      simpa only [Lib.toList_data] using hat
    unfold putE
    rw [h1]
    congr 2
    have e := (List.take_append_drop (k + 1) L).symm
    refine (congrArg (List.filter (fun e => enLess x e)) e).trans (filter_tail (take_all fun j hj hjl => ?_) (drop_all fun j hj hjl => ?_))
    · by_cases e : j = k
      · subst e
        cases hq : enLess x (atE L j) with
        | false => rfl
        | true =>
          rw [enLess_iff, hsame.1, hsame.2] at hq
          rcases hq with hq | hq
          · exact absurd hq (List.lt_irrefl _)
          · exact absurd hq.2 (List.lt_irrefl _)
      · exact enLess_asymm (hb j (by omega))
    · have h2 := rise_at hr (show k < j by omega) hjl
      rw [enLess_iff] at *
      rw [← hsame.1, ← hsame.2]; exact h2
  · intro hat
    unfold putE
    rw [h1]
    congr 2
    have e := (List.take_append_drop k L).symm
    refine (congrArg (List.filter (fun e => enLess x e)) e).trans (filter_tail (take_all fun j hj _ => enLess_asymm (hb j hj)) (drop_all fun j hj hjl => ?_))
    have hk : enLess x (atE L k) = true := by
      cases hq : enLess x (atE L k) with
      | true => rfl
      | false =>
        have hs := enLess_same (he (by omega)) hq
        have h2 := hat (by omega)
        unfold isAt at h2
        simp only [Lib.toList_data] at h2
        rw [hs.1, hs.2] at h2
        simp at h2
    by_cases e : j = k
    · subst e; exact hk
    · exact enLess_trans hk (rise_at hr (show k < j by omega) hjl)
end Go.Proofs.YtimmoclemcnhnaaDoor

/- The walk of the specification's l07Put. Written by specl07put.py. -/
namespace Go.Proofs.YtimmoclemcnhnaaDoor
open Go.RowKit

/-- 'append' of nil, where the walk is to stop behind it -/
theorem append_none_stop {P : Program} {w : World} {ops : Array Oper} {rest : List Oper} {o : Oper} {a : Act} {Q : Exit → Act → World → Prop} (hgd : o.guard = none) (s x : Operand) (t : TypeId) (ho : o.op = .call { callee := .builtin .append, args := #[s, x], argTypes := #[t, t] }) (base : Nat) (e : TypeId) (i : TypeInfo) (size : Nat) (ht : P.underlying t = some (.slice e)) (hi : P.info? e = some i) (v : Value) (n : Nat) (xs : List Value) (hs : a.eval s = v) (hown : w.ownsRow base e size v n xs) (hx : a.eval x = .slice none 0 0)
    (h : ∀ v' : Value, Hid (v' = v) → wpList P ops Q rest (a.put o.dst v') w) : wpList P ops Q (o :: rest) a w := wpList_append_own_none hgd s x t ho base e i size ht hi v n xs hs hown hx (h v rfl)
theorem own_put {W : World} {B k k2 : Nat} {v : Value} {L M : List En} {x : En} (hM : M = L.take k ++ x :: L.drop k2) (hk : k ≤ L.length) (h : W.ownsRow B 108 3 v (k + 1 + (L.length - k2)) (enCells (L.take k) ++ (enVals x ++ enCells (L.drop k2)))) : SliceE W B v M := by
  subst hM
  refine sliceE_of_own (t := 108) ?_
  rw [enCells_app, List.length_append, List.length_take, List.length_cons, List.length_drop, show min k L.length = k by omega, show k + (L.length - k2 + 1) = k + 1 + (L.length - k2) by omega]
  exact h
set_option maxRecDepth 10000 in
set_option maxHeartbeats 16000000 in
theorem specPutL_any (v : Value) (L : List En) (key name value : ByteArray) (B : Nat) (w : World) (hs : SliceE w B v L) (hr : RiseE L) (h16 : L.length ≤ 16) (hsm : ∀ e, e ∈ L → smallE e) (hx : smallE ⟨key, name, value⟩) :
    Calls Tryd.prog 90 #[v, .string key, .string name, .string value] w fun e w' => ∃ v', e = .returned v' ∧ AnsE w' w.heap.size v' (if areaB (putE L ⟨key, name, value⟩) = true then ⟨putE L ⟨key, name, value⟩, value, 0⟩ else illO 9) ∧ Below w.heap.size w w' := by
  have KL : Hid (∀ j W, Calls Tryd.prog 138 #[.agg #[.string (atE L j).ke, .string (atE L j).na, .string (atE L j).va], .agg #[.string key, .string name, .string value]] W fun e w' => e = .returned (.bool (enLess (atE L j) ⟨key, name, value⟩)) ∧ Below W.heap.size W w') := fun j W => specLess_any (atE L j) ⟨key, name, value⟩ W
  have hmem := putE_mem hx hsm
  have hlen := putE_len L ⟨key, name, value⟩
  have hcut := fun k (hb : ∀ j, j < k → enLess (atE L j) ⟨key, name, value⟩ = true) he => put_cut (x := ⟨key, name, value⟩) (k := k) hr hb he
  have KA : Hid (∀ (W : World) (B : Nat) (v : Value), SliceE W B v (putE L ⟨key, name, value⟩) → Calls Tryd.prog 135 #[v] W fun e w' => e = .returned (.bool (areaB (putE L ⟨key, name, value⟩))) ∧ Below W.heap.size W w') := fun W B v h => specArea_any v _ B W h (by omega) (fun i hi => by
    have hm := (hmem (atE (putE L ⟨key, name, value⟩) i)).1 (by rw [atE_get hi]; exact List.getElem_mem hi)
    have h3 : smallE (atE (putE L ⟨key, name, value⟩) i) := by
      rcases hm with e | ⟨e, -⟩
      · rw [e]; exact hx
      · exact hsm _ e
    obtain ⟨_, h1, h2⟩ := h3
    exact ⟨by omega, by omega⟩)
  have KI : Hid (∀ (c : Int) (W : World), Calls Tryd.prog 89 #[.int .i64 c] W fun e w' => e = .returned (.agg #[.slice none 0 0, .string ⟨#[]⟩, .int .i64 c]) ∧ Below W.heap.size W w') := fun c W => specIll_any c W
  have HCE : Hid ((∀ j, j < L.length → enLess (atE L j) ⟨key, name, value⟩ = true) → putE L ⟨key, name, value⟩ = L.take L.length ++ ⟨key, name, value⟩ :: L.drop L.length) := fun hb => (hcut L.length hb (fun h => absurd h (Nat.lt_irrefl _))).2 (fun h => absurd h (Nat.lt_irrefl _))
  have HCS : Hid (∀ k, (∀ j, j < k → enLess (atE L j) ⟨key, name, value⟩ = true) → k < L.length → enLess (atE L k) ⟨key, name, value⟩ = false → ((atE L k).ke.toList == key.toList) = true → ((atE L k).na.toList == name.toList) = true → putE L ⟨key, name, value⟩ = L.take k ++ ⟨key, name, value⟩ :: L.drop (k + 1)) := fun k hb hk he h1 h2 => (hcut k hb (fun _ => he)).1 hk (by unfold isAt; rw [h1, h2]; rfl)
  have HCO : Hid (∀ k, (∀ j, j < k → enLess (atE L j) ⟨key, name, value⟩ = true) → k < L.length → enLess (atE L k) ⟨key, name, value⟩ = false → (((atE L k).ke.toList == key.toList) && ((atE L k).na.toList == name.toList)) = false → putE L ⟨key, name, value⟩ = L.take k ++ ⟨key, name, value⟩ :: L.drop k) := fun k hb _ he h1 => (hcut k hb (fun _ => he)).2 (fun _ => h1)
  obtain ⟨W0, hW⟩ : ∃ W0, W0 = (w.alloc (.cells #[.slice none 0 0, .string ⟨#[]⟩, .int .i64 0] 56)).alloc (.cells #[.string key, .string name, .string value] 108) := ⟨_, rfl⟩
  have hW0 : Hid (W0 = (w.alloc (.cells #[.slice none 0 0, .string ⟨#[]⟩, .int .i64 0] 56)).alloc (.cells #[.string key, .string name, .string value] 108)) := hW
  have X0 : Hid (BoxAt W0 w.heap.size) := by
    show BoxAt _ _
    rw [hW]
    exact (box_made w _).below ((Below.refl _ _).alloc (Nat.le_refl _) _)
  have B0 : Hid (Below w.heap.size w W0) := by
    show Below _ _ _
    rw [hW]
    exact ((Below.refl _ _).alloc (Nat.le_refl _) _).alloc (by simp) _
  have u0 : W0.cell? ⟨w.heap.size + 1, 0, none⟩ = some (.string key) := by rw [hW]; exact (World.cell?_alloc_at _ _ _ _ (by simp)).trans rfl
  have u1 : W0.cell? ⟨w.heap.size + 1, 1, none⟩ = some (.string name) := by rw [hW]; exact (World.cell?_alloc_at _ _ _ _ (by simp)).trans rfl
  have u2 : W0.cell? ⟨w.heap.size + 1, 2, none⟩ = some (.string value) := by rw [hW]; exact (World.cell?_alloc_at _ _ _ _ (by simp)).trans rfl
  have hx0 : w.heap.size + 1 < W0.heap.size := by rw [hW]; simp
  have U0 : Hid (W0.cell? ⟨w.heap.size + 1, 0, none⟩ = some (.string key) ∧ W0.cell? ⟨w.heap.size + 1, 1, none⟩ = some (.string name) ∧ W0.cell? ⟨w.heap.size + 1, 2, none⟩ = some (.string value)) := ⟨u0, u1, u2⟩
  obtain ⟨i0, hi, hy0, hy1, hy2⟩ := info_parts infoEntry
  obtain ⟨⟨p, cap, rfl, hg⟩, p2, c2, e2, hcap, hnc⟩ := hs
  injection e2 with e3 _ e4
  subst e3 e4
  have HG : Hid (0 < L.length → ∃ g, p = some ⟨g, 0, none⟩ ∧ g < w.heap.size ∧ ∀ j, j < L.length → ∀ o, o < 3 → w.cell? ⟨g, j * 3 + o, none⟩ = some (enC (atE L j) o)) := fun h0 => by
    obtain ⟨g, e, -, hgw, hc⟩ := hg h0
    exact ⟨g, e, hgw, fun j hj o ho => (hc j hj o ho).1⟩
  have HP : Hid (p = none → cap = 0) := hnc
  clear hW hg hnc hmem hcut u0 u1 u2 hr hsm hx
  generalize hM : putE L ⟨key, name, value⟩ = M at *
  clear hM
  generalize areaB M = ok at *
  go_enter Tryd.func90, Tryd.ntmps90
  go_upto_region 2 with fail
  rw [← hW0.out]
  clear hW0
  go_wp2
  go_loopw [10] (fun i wr => ∃ k : Nat, k ≤ L.length ∧ i = .int .i64 k ∧ Hid (∀ j, j < k → enLess (atE L j) ⟨key, name, value⟩ = true) ∧ Hid (Below W0.heap.size W0 wr)) (fun i _ => L.length - (intOf i).toNat)
  case atStart => exact ⟨0, Nat.zero_le _, rfl, fun j hj => absurd hj (by omega), Below.refl _ _⟩
  case round =>
    obtain ⟨k, hk, rfl, HM, HB⟩ := hrel
    have hxr : w.heap.size + 1 < wr.heap.size := Nat.lt_of_lt_of_le hx0 HB.out.size
    have xr0 : wr.cell? ⟨w.heap.size + 1, 0, none⟩ = some (.string key) := ((bcell HB.out).1 _ _ hx0).trans U0.out.1
    have xr1 : wr.cell? ⟨w.heap.size + 1, 1, none⟩ = some (.string name) := ((bcell HB.out).1 _ _ hx0).trans U0.out.2.1
    have xr2 : wr.cell? ⟨w.heap.size + 1, 2, none⟩ = some (.string value) := ((bcell HB.out).1 _ _ hx0).trans U0.out.2.2
    by_cases hlt : k < L.length
    · obtain ⟨g, rfl, hgw, hc⟩ := HG.out (by omega)
      have hc2 : ∀ W, Below w.heap.size w W → ∀ j, j < L.length → ∀ o, o < 3 → W.cell? ⟨g, j * 3 + o, none⟩ = some (enC (atE L j) o) := fun W hb j hj o ho => by rw [(bcell hb).1 _ _ hgw]; exact hc j hj o ho
      have BR : Hid (Below w.heap.size w wr) := B0.out.trans (HB.out.mono B0.out.size)
      have hgr : g < wr.heap.size := Nat.lt_of_lt_of_le hgw BR.out.size
      have c0 : wr.cell? ⟨g, k * 3, none⟩ = some (.string (atE L k).ke) := hc2 _ BR.out k hlt 0 (by omega)
      have c1 : wr.cell? ⟨g, k * 3 + 1, none⟩ = some (.string (atE L k).na) := hc2 _ BR.out k hlt 1 (by omega)
      have c2 : wr.cell? ⟨g, k * 3 + 2, none⟩ = some (.string (atE L k).va) := hc2 _ BR.out k hlt 2 (by omega)
      have HC1 : Hid (∀ W, Below w.heap.size w W → ∀ j u, (enCells (L.take k))[j]? = some u → W.cell? ((⟨g, 0, none⟩ : Addr).add j) = some u) := fun W hb => by
        have := cells_part (hc2 W hb) 0 (L.take k) (take_at (by omega))
        simpa using this
      have HC2 : Hid (∀ k2 W, Below w.heap.size w W → ∀ j u, (enCells (L.drop k2))[j]? = some u → W.cell? ((⟨g, k2 * 3, none⟩ : Addr).add j) = some u) := fun k2 W hb => cells_part (hc2 W hb) k2 (L.drop k2) (drop_at L k2)
      have hl1 : (enCells (L.take k)).length = k * 3 := by rw [enCells_len, List.length_take]; omega
      have HL2 : Hid (∀ k2, (enCells (L.drop k2)).length = (L.length - k2) * 3) := fun k2 => by rw [enCells_len, List.length_drop]
      have o1 : ∀ v ∈ enCells (L.take k), v.oneCell' = true := one_cells _
      have HO2 : Hid (∀ k2, ∀ v ∈ enCells (L.drop k2), v.oneCell' = true) := fun k2 => one_cells _
      have KL1 := KL.out k
      have k0 : (0 : Int) ≤ k := by omega
      have k1 : (k : Int) < L.length := by omega
      have q1 : decide ((k : Int) < (L.length : Int)) = true := by rw [decide_eq_true_iff]; omega
      have HCS1 := HCS.out k HM.out hlt
      have HCO1 := HCO.out k HM.out hlt
      have HM1 : Hid (enLess (atE L k) ⟨key, name, value⟩ = true → ∀ j, j < k + 1 → enLess (atE L j) ⟨key, name, value⟩ = true) := fun h j hj => by
        by_cases e : j = k
        · subst e; exact h
        · exact HM.out j (by omega)
      clear hc hc2 HCS HCO HCE KL
      cases hls : enLess (atE L k) ⟨key, name, value⟩ with
      | true =>
        have HM2 : Hid (∀ j, j < k + 1 → enLess (atE L j) ⟨key, name, value⟩ = true) := HM1.out hls
        rw [hls] at KL1
        have KL1 : Hid (∀ W, Calls Tryd.prog 138 #[.agg #[.string (atE L k).ke, .string (atE L k).na, .string (atE L k).va], .agg #[.string key, .string name, .string value]] W fun e w' => e = .returned (.bool true) ∧ Below W.heap.size W w') := KL1
        clear HCS1 HCO1 HM1 hls HC1 HC2 hl1 HL2 o1 HO2 HM
        generalize atE L k = y at *
        obtain ⟨ke, na, va⟩ := y
        dsimp only at *
        go_upto_region 3 with fail
        refine wp_region_held_drew (S := (fun w' => w'.cell? ⟨g, k * 3, none⟩ = some (.string ke) ∧ w'.cell? ⟨g, k * 3 + 1, none⟩ = some (.string na) ∧ w'.cell? ⟨g, k * 3 + 2, none⟩ = some (.string va) ∧ w'.cell? ⟨w.heap.size + 1, 0, none⟩ = some (.string key) ∧ w'.cell? ⟨w.heap.size + 1, 1, none⟩ = some (.string name) ∧ w'.cell? ⟨w.heap.size + 1, 2, none⟩ = some (.string value))) (by kernel_rfl) ?_ (fun hH0 => ?_)
        · (try dsimp only)
          go_keep
        refine wpAnyH_take (i := 0) (oi := { dst := some 16, op := Op.move (Operand.tmp 10), type := 3, pos := "l07_area.go:51", after := #[], guard := none }) (v := ?va0) rfl (by kernel_rfl) (by kernel_rfl) (by kernel_rfl) (fun _ _ _ h => h) (Or.inl ⟨by rfl, ?hya0⟩) (by assumption) ?resta0
        case hya0 =>
          intro w hSw
          (try dsimp only at hSw)
          go_simp
          try with_reducible rfl
        try simp only [Act.put, List.setIfInBounds_toArray, List.set_cons_zero, List.set_cons_succ]
        refine wpAnyH_take (i := 1) (oi := { dst := some 17, op := Op.move (Operand.tmp 0), type := 54, pos := "l07_area.go:51", after := #[], guard := none }) (v := ?va1) rfl (by kernel_rfl) (by kernel_rfl) (by kernel_rfl) (fun _ _ _ h => h) (Or.inl ⟨by rfl, ?hya1⟩) (by assumption) ?resta1
        case hya1 =>
          intro w hSw
          (try dsimp only at hSw)
          go_simp
          try with_reducible rfl
        try simp only [Act.put, List.setIfInBounds_toArray, List.set_cons_zero, List.set_cons_succ]
        refine wpAnyH_take (i := 2) (oi := { dst := some 18, op := Op.call { callee := Callee.builtin Builtin.len, args := #[Operand.tmp 17], argTypes := #[54] }, type := 3, pos := "l07_area.go:51", after := #[{ on := 1, ground := Ground.data }], guard := none }) (v := ?va2) rfl (by kernel_rfl) (by kernel_rfl) (by kernel_rfl) (fun _ _ _ h => h) (Or.inl ⟨by rfl, ?hya2⟩) (by assumption) ?resta2
        case hya2 =>
          intro w hSw
          (try dsimp only at hSw)
          go_simp
          try with_reducible rfl
        try simp only [Act.put, List.setIfInBounds_toArray, List.set_cons_zero, List.set_cons_succ]
        refine wpAnyH_take (i := 3) (oi := { dst := some 19, op := Op.binOp BinOp.lss 3 (Operand.tmp 16) (Operand.tmp 18) 3, type := 4, pos := "l07_area.go:51", after := #[{ on := 0, ground := Ground.data }, { on := 2, ground := Ground.data }], guard := none }) (v := ?va3) rfl (by kernel_rfl) (by kernel_rfl) (by kernel_rfl) (fun _ _ _ h => h) (Or.inl ⟨by rfl, ?hya3⟩) (by assumption) ?resta3
        case hya3 =>
          intro w hSw
          (try dsimp only at hSw)
          go_simp
          try with_reducible rfl
        try simp only [Act.put, List.setIfInBounds_toArray, List.set_cons_zero, List.set_cons_succ]
        refine wpAnyH_take (i := 4) (oi := { dst := some 20, op := Op.move (Operand.tmp 19), type := 4, pos := "l07_area.go:51", after := #[{ on := 3, ground := Ground.data }], guard := none }) (v := ?va4) rfl (by kernel_rfl) (by kernel_rfl) (by kernel_rfl) (fun _ _ _ h => h) (Or.inl ⟨by rfl, ?hya4⟩) (by assumption) ?resta4
        case hya4 =>
          intro w hSw
          (try dsimp only at hSw)
          go_simp
          try with_reducible rfl
        try simp only [Act.put, List.setIfInBounds_toArray, List.set_cons_zero, List.set_cons_succ]
        refine wpAnyH_take (i := 5) (oi := { dst := some 21, op := Op.move (Operand.tmp 0), type := 54, pos := "l07_area.go:51", after := #[{ on := 4, ground := Ground.guard }], guard := some (4, true) }) (v := ?va5) rfl (by kernel_rfl) (by kernel_rfl) (by kernel_rfl) (fun _ _ _ h => h) (Or.inl ⟨by rfl, ?hya5⟩) (by assumption) ?resta5
        case hya5 =>
          intro w hSw
          (try dsimp only at hSw)
          go_simp
          try with_reducible rfl
        try simp only [Act.put, List.setIfInBounds_toArray, List.set_cons_zero, List.set_cons_succ]
        refine wpAnyH_take (i := 6) (oi := { dst := some 22, op := Op.move (Operand.tmp 10), type := 3, pos := "l07_area.go:51", after := #[{ on := 4, ground := Ground.guard }], guard := some (4, true) }) (v := ?va6) rfl (by kernel_rfl) (by kernel_rfl) (by kernel_rfl) (fun _ _ _ h => h) (Or.inl ⟨by rfl, ?hya6⟩) (by assumption) ?resta6
        case hya6 =>
          intro w hSw
          (try dsimp only at hSw)
          go_simp
          try with_reducible rfl
        try simp only [Act.put, List.setIfInBounds_toArray, List.set_cons_zero, List.set_cons_succ]
        refine wpAnyH_take (i := 7) (oi := { dst := some 23, op := Op.indexAddr 54 (Operand.tmp 21) (Operand.tmp 22), type := 0, pos := "l07_area.go:51", after := #[{ on := 5, ground := Ground.data }, { on := 6, ground := Ground.data }, { on := 4, ground := Ground.guard }], guard := some (4, true) }) (v := ?va7) rfl (by kernel_rfl) (by kernel_rfl) (by kernel_rfl) (fun _ _ _ h => h) (Or.inl ⟨by rfl, ?hya7⟩) (by assumption) ?resta7
        case hya7 =>
          intro w hSw
          (try dsimp only at hSw)
          go_simp
          try with_reducible rfl
        try simp only [Act.put, List.setIfInBounds_toArray, List.set_cons_zero, List.set_cons_succ]
        refine wpAnyH_take (i := 8) (oi := { dst := some 24, op := Op.load 108 (Operand.tmp 23), type := 108, pos := "l07_area.go:51", after := #[{ on := 7, ground := Ground.data }, { on := 4, ground := Ground.guard }], guard := some (4, true) }) (v := ?va8) rfl (by kernel_rfl) (by kernel_rfl) (by kernel_rfl) (fun _ _ _ h => h) (Or.inl ⟨by rfl, ?hya8⟩) (by assumption) ?resta8
        case hya8 =>
          intro w hSw
          (try dsimp only at hSw)
          go_simp
          try with_reducible rfl
        try simp only [Act.put, List.setIfInBounds_toArray, List.set_cons_zero, List.set_cons_succ]
        refine wpAnyH_take (i := 9) (oi := { dst := some 25, op := Op.load 108 (Operand.tmp 9), type := 108, pos := "l07_area.go:51", after := #[{ on := 4, ground := Ground.guard }], guard := some (4, true) }) (v := ?va9) rfl (by kernel_rfl) (by kernel_rfl) (by kernel_rfl) (fun _ _ _ h => h) (Or.inl ⟨by rfl, ?hya9⟩) (by assumption) ?resta9
        case hya9 =>
          intro w hSw
          (try dsimp only at hSw)
          go_simp
          try with_reducible rfl
        try simp only [Act.put, List.setIfInBounds_toArray, List.set_cons_zero, List.set_cons_succ]
        refine wpAnyH_ready (rs := [10]) (by kernel_rfl) (by simp) ?_
        refine AllReadyH.cons (o := { dst := some 26, op := Op.call { callee := Callee.value (Operand.func 138), args := #[Operand.tmp 24, Operand.tmp 25], argTypes := #[108, 108] }, type := 4, pos := "l07_area.go:51", after := #[{ on := 8, ground := Ground.data }, { on := 9, ground := Ground.data }, { on := 4, ground := Ground.chain }, { on := 4, ground := Ground.guard }], guard := some (4, true) }) rfl (fun K hK => ?_) AllReadyH.nil
        go_simp
        (go_at_call 138; refine (KL1.out _).mono ?_; rintro e w5 ⟨rfl, hb5⟩; have A5 : Below wr.heap.size wr w5 := (Below.drew (Below.refl _ _)).trans hb5; have d0 : w5.cell? ⟨g, k * 3, none⟩ = some (.string ke) := ((bcell A5).1 _ _ hgr).trans c0; have d1 : w5.cell? ⟨g, k * 3 + 1, none⟩ = some (.string na) := ((bcell A5).1 _ _ hgr).trans c1; have d2 : w5.cell? ⟨g, k * 3 + 2, none⟩ = some (.string va) := ((bcell A5).1 _ _ hgr).trans c2; have xc0 : w5.cell? ⟨w.heap.size + 1, 0, none⟩ = some (.string key) := ((bcell A5).1 _ _ hxr).trans xr0; have xc1 : w5.cell? ⟨w.heap.size + 1, 1, none⟩ = some (.string name) := ((bcell A5).1 _ _ hxr).trans xr1; have xc2 : w5.cell? ⟨w.heap.size + 1, 2, none⟩ = some (.string value) := ((bcell A5).1 _ _ hxr).trans xr2)
        try (go_wp2_with fail)
        refine hK.out _ _ ?_ (fun hH1 => ?_)
        · (try dsimp only)
          first | go_keep | (refine ⟨?_, ?_, ?_, ?_, ?_, ?_⟩ <;> assumption)
        clear hK K hH0
        try simp only [Act.put, List.setIfInBounds_toArray, List.set_cons_zero, List.set_cons_succ]
        refine wpAnyH_take (i := 11) (oi := { dst := some 27, op := Op.pick (Operand.tmp 20) (Operand.tmp 26) (Operand.const (Value.bool false)), type := 4, pos := "l07_area.go:51", after := #[{ on := 4, ground := Ground.data }, { on := 10, ground := Ground.data }], guard := none }) (v := ?va11) rfl (by kernel_rfl) (by kernel_rfl) (by kernel_rfl) (fun _ _ _ h => h) (Or.inl ⟨by rfl, ?hya11⟩) (by assumption) ?resta11
        case hya11 =>
          intro w hSw
          (try dsimp only at hSw)
          go_simp
          try with_reducible rfl
        try simp only [Act.put, List.setIfInBounds_toArray, List.set_cons_zero, List.set_cons_succ]
        refine wpAnyH_done (by kernel_rfl) ?_ _
        all_goals go_wp2
        have BN : Hid (Below W0.heap.size W0 w5) := HB.out.trans (A5.mono HB.out.size)
        go_roundw
        case rel => exact ⟨k + 1, by omega, by go_num, HM2, BN⟩
        case measure => simp [intOf]; omega
      | false =>
        rw [hls] at KL1
        have KL1 : Hid (∀ W, Calls Tryd.prog 138 #[.agg #[.string (atE L k).ke, .string (atE L k).na, .string (atE L k).va], .agg #[.string key, .string name, .string value]] W fun e w' => e = .returned (.bool false) ∧ Below W.heap.size W w') := KL1
        have HCS2 : Hid (((atE L k).ke.toList == key.toList) = true → ((atE L k).na.toList == name.toList) = true → M = L.take k ++ ⟨key, name, value⟩ :: L.drop (k + 1)) := HCS1 hls
        have HCO2 : Hid ((((atE L k).ke.toList == key.toList) && ((atE L k).na.toList == name.toList)) = false → M = L.take k ++ ⟨key, name, value⟩ :: L.drop k) := HCO1 hls
        clear HCS1 HCO1 HM1 hls HM
        generalize atE L k = y at *
        obtain ⟨ke, na, va⟩ := y
        dsimp only at *
        go_upto_region 3 with fail
        refine wp_region_held_drew (S := (fun w' => w'.cell? ⟨g, k * 3, none⟩ = some (.string ke) ∧ w'.cell? ⟨g, k * 3 + 1, none⟩ = some (.string na) ∧ w'.cell? ⟨g, k * 3 + 2, none⟩ = some (.string va) ∧ w'.cell? ⟨w.heap.size + 1, 0, none⟩ = some (.string key) ∧ w'.cell? ⟨w.heap.size + 1, 1, none⟩ = some (.string name) ∧ w'.cell? ⟨w.heap.size + 1, 2, none⟩ = some (.string value))) (by kernel_rfl) ?_ (fun hH0 => ?_)
        · (try dsimp only)
          go_keep
        refine wpAnyH_take (i := 0) (oi := { dst := some 16, op := Op.move (Operand.tmp 10), type := 3, pos := "l07_area.go:51", after := #[], guard := none }) (v := ?vb0) rfl (by kernel_rfl) (by kernel_rfl) (by kernel_rfl) (fun _ _ _ h => h) (Or.inl ⟨by rfl, ?hyb0⟩) (by assumption) ?restb0
        case hyb0 =>
          intro w hSw
          (try dsimp only at hSw)
          go_simp
          try with_reducible rfl
        try simp only [Act.put, List.setIfInBounds_toArray, List.set_cons_zero, List.set_cons_succ]
        refine wpAnyH_take (i := 1) (oi := { dst := some 17, op := Op.move (Operand.tmp 0), type := 54, pos := "l07_area.go:51", after := #[], guard := none }) (v := ?vb1) rfl (by kernel_rfl) (by kernel_rfl) (by kernel_rfl) (fun _ _ _ h => h) (Or.inl ⟨by rfl, ?hyb1⟩) (by assumption) ?restb1
        case hyb1 =>
          intro w hSw
          (try dsimp only at hSw)
          go_simp
          try with_reducible rfl
        try simp only [Act.put, List.setIfInBounds_toArray, List.set_cons_zero, List.set_cons_succ]
        refine wpAnyH_take (i := 2) (oi := { dst := some 18, op := Op.call { callee := Callee.builtin Builtin.len, args := #[Operand.tmp 17], argTypes := #[54] }, type := 3, pos := "l07_area.go:51", after := #[{ on := 1, ground := Ground.data }], guard := none }) (v := ?vb2) rfl (by kernel_rfl) (by kernel_rfl) (by kernel_rfl) (fun _ _ _ h => h) (Or.inl ⟨by rfl, ?hyb2⟩) (by assumption) ?restb2
        case hyb2 =>
          intro w hSw
          (try dsimp only at hSw)
          go_simp
          try with_reducible rfl
        try simp only [Act.put, List.setIfInBounds_toArray, List.set_cons_zero, List.set_cons_succ]
        refine wpAnyH_take (i := 3) (oi := { dst := some 19, op := Op.binOp BinOp.lss 3 (Operand.tmp 16) (Operand.tmp 18) 3, type := 4, pos := "l07_area.go:51", after := #[{ on := 0, ground := Ground.data }, { on := 2, ground := Ground.data }], guard := none }) (v := ?vb3) rfl (by kernel_rfl) (by kernel_rfl) (by kernel_rfl) (fun _ _ _ h => h) (Or.inl ⟨by rfl, ?hyb3⟩) (by assumption) ?restb3
        case hyb3 =>
          intro w hSw
          (try dsimp only at hSw)
          go_simp
          try with_reducible rfl
        try simp only [Act.put, List.setIfInBounds_toArray, List.set_cons_zero, List.set_cons_succ]
        refine wpAnyH_take (i := 4) (oi := { dst := some 20, op := Op.move (Operand.tmp 19), type := 4, pos := "l07_area.go:51", after := #[{ on := 3, ground := Ground.data }], guard := none }) (v := ?vb4) rfl (by kernel_rfl) (by kernel_rfl) (by kernel_rfl) (fun _ _ _ h => h) (Or.inl ⟨by rfl, ?hyb4⟩) (by assumption) ?restb4
        case hyb4 =>
          intro w hSw
          (try dsimp only at hSw)
          go_simp
          try with_reducible rfl
        try simp only [Act.put, List.setIfInBounds_toArray, List.set_cons_zero, List.set_cons_succ]
        refine wpAnyH_take (i := 5) (oi := { dst := some 21, op := Op.move (Operand.tmp 0), type := 54, pos := "l07_area.go:51", after := #[{ on := 4, ground := Ground.guard }], guard := some (4, true) }) (v := ?vb5) rfl (by kernel_rfl) (by kernel_rfl) (by kernel_rfl) (fun _ _ _ h => h) (Or.inl ⟨by rfl, ?hyb5⟩) (by assumption) ?restb5
        case hyb5 =>
          intro w hSw
          (try dsimp only at hSw)
          go_simp
          try with_reducible rfl
        try simp only [Act.put, List.setIfInBounds_toArray, List.set_cons_zero, List.set_cons_succ]
        refine wpAnyH_take (i := 6) (oi := { dst := some 22, op := Op.move (Operand.tmp 10), type := 3, pos := "l07_area.go:51", after := #[{ on := 4, ground := Ground.guard }], guard := some (4, true) }) (v := ?vb6) rfl (by kernel_rfl) (by kernel_rfl) (by kernel_rfl) (fun _ _ _ h => h) (Or.inl ⟨by rfl, ?hyb6⟩) (by assumption) ?restb6
        case hyb6 =>
          intro w hSw
          (try dsimp only at hSw)
          go_simp
          try with_reducible rfl
        try simp only [Act.put, List.setIfInBounds_toArray, List.set_cons_zero, List.set_cons_succ]
        refine wpAnyH_take (i := 7) (oi := { dst := some 23, op := Op.indexAddr 54 (Operand.tmp 21) (Operand.tmp 22), type := 0, pos := "l07_area.go:51", after := #[{ on := 5, ground := Ground.data }, { on := 6, ground := Ground.data }, { on := 4, ground := Ground.guard }], guard := some (4, true) }) (v := ?vb7) rfl (by kernel_rfl) (by kernel_rfl) (by kernel_rfl) (fun _ _ _ h => h) (Or.inl ⟨by rfl, ?hyb7⟩) (by assumption) ?restb7
        case hyb7 =>
          intro w hSw
          (try dsimp only at hSw)
          go_simp
          try with_reducible rfl
        try simp only [Act.put, List.setIfInBounds_toArray, List.set_cons_zero, List.set_cons_succ]
        refine wpAnyH_take (i := 8) (oi := { dst := some 24, op := Op.load 108 (Operand.tmp 23), type := 108, pos := "l07_area.go:51", after := #[{ on := 7, ground := Ground.data }, { on := 4, ground := Ground.guard }], guard := some (4, true) }) (v := ?vb8) rfl (by kernel_rfl) (by kernel_rfl) (by kernel_rfl) (fun _ _ _ h => h) (Or.inl ⟨by rfl, ?hyb8⟩) (by assumption) ?restb8
        case hyb8 =>
          intro w hSw
          (try dsimp only at hSw)
          go_simp
          try with_reducible rfl
        try simp only [Act.put, List.setIfInBounds_toArray, List.set_cons_zero, List.set_cons_succ]
        refine wpAnyH_take (i := 9) (oi := { dst := some 25, op := Op.load 108 (Operand.tmp 9), type := 108, pos := "l07_area.go:51", after := #[{ on := 4, ground := Ground.guard }], guard := some (4, true) }) (v := ?vb9) rfl (by kernel_rfl) (by kernel_rfl) (by kernel_rfl) (fun _ _ _ h => h) (Or.inl ⟨by rfl, ?hyb9⟩) (by assumption) ?restb9
        case hyb9 =>
          intro w hSw
          (try dsimp only at hSw)
          go_simp
          try with_reducible rfl
        try simp only [Act.put, List.setIfInBounds_toArray, List.set_cons_zero, List.set_cons_succ]
        refine wpAnyH_ready (rs := [10]) (by kernel_rfl) (by simp) ?_
        refine AllReadyH.cons (o := { dst := some 26, op := Op.call { callee := Callee.value (Operand.func 138), args := #[Operand.tmp 24, Operand.tmp 25], argTypes := #[108, 108] }, type := 4, pos := "l07_area.go:51", after := #[{ on := 8, ground := Ground.data }, { on := 9, ground := Ground.data }, { on := 4, ground := Ground.chain }, { on := 4, ground := Ground.guard }], guard := some (4, true) }) rfl (fun K hK => ?_) AllReadyH.nil
        go_simp
        (go_at_call 138; refine (KL1.out _).mono ?_; rintro e w5 ⟨rfl, hb5⟩; have A5 : Below wr.heap.size wr w5 := (Below.drew (Below.refl _ _)).trans hb5; have d0 : w5.cell? ⟨g, k * 3, none⟩ = some (.string ke) := ((bcell A5).1 _ _ hgr).trans c0; have d1 : w5.cell? ⟨g, k * 3 + 1, none⟩ = some (.string na) := ((bcell A5).1 _ _ hgr).trans c1; have d2 : w5.cell? ⟨g, k * 3 + 2, none⟩ = some (.string va) := ((bcell A5).1 _ _ hgr).trans c2; have xc0 : w5.cell? ⟨w.heap.size + 1, 0, none⟩ = some (.string key) := ((bcell A5).1 _ _ hxr).trans xr0; have xc1 : w5.cell? ⟨w.heap.size + 1, 1, none⟩ = some (.string name) := ((bcell A5).1 _ _ hxr).trans xr1; have xc2 : w5.cell? ⟨w.heap.size + 1, 2, none⟩ = some (.string value) := ((bcell A5).1 _ _ hxr).trans xr2)
        try (go_wp2_with fail)
        refine hK.out _ _ ?_ (fun hH1 => ?_)
        · (try dsimp only)
          first | go_keep | (refine ⟨?_, ?_, ?_, ?_, ?_, ?_⟩ <;> assumption)
        clear hK K hH0
        try simp only [Act.put, List.setIfInBounds_toArray, List.set_cons_zero, List.set_cons_succ]
        refine wpAnyH_take (i := 11) (oi := { dst := some 27, op := Op.pick (Operand.tmp 20) (Operand.tmp 26) (Operand.const (Value.bool false)), type := 4, pos := "l07_area.go:51", after := #[{ on := 4, ground := Ground.data }, { on := 10, ground := Ground.data }], guard := none }) (v := ?vb11) rfl (by kernel_rfl) (by kernel_rfl) (by kernel_rfl) (fun _ _ _ h => h) (Or.inl ⟨by rfl, ?hyb11⟩) (by assumption) ?restb11
        case hyb11 =>
          intro w hSw
          (try dsimp only at hSw)
          go_simp
          try with_reducible rfl
        try simp only [Act.put, List.setIfInBounds_toArray, List.set_cons_zero, List.set_cons_succ]
        refine wpAnyH_done (by kernel_rfl) ?_ _
        have BW : Hid (Below w.heap.size w w5) := BR.out.trans (A5.mono BR.out.size)
        have XC : Hid (BoxAt w5 w.heap.size) := X0.out.below (HB.out.trans (A5.mono HB.out.size))
        have hxc : w.heap.size + 1 < w5.heap.size := Nat.lt_of_lt_of_le hxr A5.size
        have BC := BW
        clear BW BR X0 B0 HB hx0 U0 xr0 xr1 xr2 hxr c0 c1 c2
        generalize hwc5 : w5 = Wc at *
        clear hwc5
        cases hq1 : (ke.toList == key.toList) with
        | false =>
          have HE : Hid (M = L.take k ++ ⟨key, name, value⟩ :: L.drop k) := HCO2.out (by rw [hq1]; rfl)
          have HOP : Hid (∀ (W : World) (v : Value), W.ownsRow Wc.heap.size 108 3 v (k + 1 + (L.length - k)) (enCells (L.take k) ++ (enVals ⟨key, name, value⟩ ++ enCells (L.drop k))) → SliceE W Wc.heap.size v M) := fun W v h => own_put HE.out (Nat.le_of_lt hlt) h
          have HC3 : Hid (∀ W, Below w.heap.size w W → ∀ j u, (enCells (L.drop k))[j]? = some u → W.cell? ((⟨g, k * 3, none⟩ : Addr).add j) = some u) := HC2.out k
          have hl2 : (enCells (L.drop k)).length = (L.length - k) * 3 := HL2.out k
          have o2 : ∀ v ∈ enCells (L.drop k), v.oneCell' = true := HO2.out k
          have kc : (k : Int) ≤ cap := by omega
          clear HC2 HL2 HO2 HE HCS2 HCO2
          generalize enCells (L.take k) = C1 at *
          generalize enCells (L.drop k) = C2 at *
          have hgc : g < Wc.heap.size := Nat.lt_of_lt_of_le hgw BC.out.size
          have k3 : ¬ (k = cap) := by omega
          have O0 : Hid ((Wc.alloc (.cells #[] 108)).ownsRow Wc.heap.size 108 3 (.slice (some ⟨Wc.heap.size, 0, none⟩) 0 0) 0 (enCells [])) := World.ownsRow_made Wc #[] 0 (Nat.le_refl _) (Nat.zero_le _) rfl
          have AA : Hid (Below Wc.heap.size Wc (Wc.alloc (.cells #[] 108))) := (Below.refl _ _).alloc (Nat.le_refl _) _
          have BA : Hid (Below w.heap.size w (Wc.alloc (.cells #[] 108))) := BC.out.trans (AA.out.mono BC.out.size)
          go_wp2_with (at_builtin; go_must (refine wpList_append_own _ rfl _ _ 54 rfl Wc.heap.size 108 i0 (.agg #[.string ⟨#[]⟩, .string ⟨#[]⟩, .string ⟨#[]⟩]) 3 48 Tryd.underlying54 hi hy0 hy1 hy2 rfl (by decide) _ _ _ rfl O0.out ⟨g, 0, none⟩ k _ C1 rfl hl1 (HC1.out _ BA.out) o1 (by unfold maxLen; omega) (by omega) (by simp) ?_))
          intro v1 w3 ho1 hg1 hn1
          have O1 := ho1
          have A3 : Hid (Below Wc.heap.size Wc w3) := AA.out.grown hg1 (by simp) (fun j hj => own_base O0.out j hj)
          clear ho1 hg1 hn1 O0 AA BA
          have y0 : w3.cell? ⟨w.heap.size + 1, 0, none⟩ = some (.string key) := ((bcell A3.out).1 _ _ hxc).trans xc0
          have y1 : w3.cell? ⟨w.heap.size + 1, 1, none⟩ = some (.string name) := ((bcell A3.out).1 _ _ hxc).trans xc1
          have y2 : w3.cell? ⟨w.heap.size + 1, 2, none⟩ = some (.string value) := ((bcell A3.out).1 _ _ hxc).trans xc2
          have O1h : Hid (World.ownsRow w3 Wc.heap.size 108 3 _ _ _) := O1
          have z3 : Wc.heap.size ≤ w3.heap.size := A3.out.size
          clear O1 xc0 xc1 xc2
          go_wp2_with (at_builtin; go_must (refine wpList_append_own _ rfl _ _ 54 rfl Wc.heap.size 108 i0 (.agg #[.string ⟨#[]⟩, .string ⟨#[]⟩, .string ⟨#[]⟩]) 3 48 Tryd.underlying54 hi hy0 hy1 hy2 rfl (by decide) _ _ _ rfl (O1h.out.alloc _) ⟨w3.heap.size, 0, none⟩ 1 1 (enVals ⟨key, name, value⟩) rfl rfl (cell_En _ ⟨key, name, value⟩ _) (one_En ⟨key, name, value⟩) (by unfold maxLen; omega) (by omega) (by simp; omega) ?_))
          intro v2 w4 ho2 hg2 hn2
          have A4 : Hid (Below Wc.heap.size Wc w4) := (A3.out.alloc z3 _).grown hg2 (by simp; omega) (fun j hj => own_base O1h.out j hj)
          have O2h : Hid (World.ownsRow w4 Wc.heap.size 108 3 v2 _ _) := ho2
          have z4 : Wc.heap.size ≤ w4.heap.size := A4.out.size
          have e0 : w4.cell? ⟨g, k * 3, none⟩ = some (.string ke) := ((bcell A4.out).1 _ _ hgc).trans d0
          have e1 : w4.cell? ⟨g, k * 3 + 1, none⟩ = some (.string na) := ((bcell A4.out).1 _ _ hgc).trans d1
          clear ho2 hg2 hn2 O1h A3 y0 y1 y2
          go_wp2_with (at_builtin; go_must (refine wpList_append_own _ rfl _ _ 54 rfl Wc.heap.size 108 i0 (.agg #[.string ⟨#[]⟩, .string ⟨#[]⟩, .string ⟨#[]⟩]) 3 48 Tryd.underlying54 hi hy0 hy1 hy2 rfl (by decide) _ _ _ rfl O2h.out ⟨g, k * 3, none⟩ (L.length - k) (cap - k) C2 rfl hl2 (HC3.out _ (BC.out.trans (A4.out.mono BC.out.size))) o2 (by unfold maxLen; omega) (by omega) z4 ?_))
          intro v3 w5 ho3 hg3 hn3
          have S5 : Hid (SliceE w5 Wc.heap.size v3 M) := HOP.out _ _ (by have h := ho3; have e0 : enCells [] = [] := rfl; simpa [e0, List.append_assoc] using h)
          have A5 : Hid (Below Wc.heap.size Wc w5) := A4.out.grown hg3 z4 (fun j hj => own_base O2h.out j hj)
          clear ho3 hg3 hn3
          clear O2h A4
          obtain ⟨q, cq, hv⟩ : ∃ q cq, v3 = .slice q M.length cq := by obtain ⟨⟨p, cap, e, -⟩, -⟩ := S5.out; exact ⟨p, cap, e⟩
          have X5 : Hid (BoxAt w5 w.heap.size) := XC.out.below A5.out
          have B5 : Hid (Below w.heap.size w w5) := BC.out.trans (A5.out.mono BC.out.size)
          have K5 := KA.out w5 _ _ S5.out
          clear A5 HOP
          generalize hm : M.length = m at *
          subst hv
          go_wp2_with fail
          refine K5.mono ?_
          rintro e w6 ⟨rfl, hb6⟩
          have S6 : Hid (SliceE w6 Wc.heap.size (.slice q m cq) M) := S5.out.below hb6
          have X6 : Hid (BoxAt w6 w.heap.size) := X5.out.below hb6
          have B6 : Hid (Below w.heap.size w w6) := B5.out.trans (hb6.mono B5.out.size)
          have hwc : w.heap.size < Wc.heap.size := XC.out.lt
          clear hb6 S5 X5 B5 K5
          cases ok with
          | true =>
            obtain ⟨x0, x1, x2, f0, f1, f2, hltx⟩ := X6.out
            go_wp2
            refine bodyPost_ret (v := .agg #[.slice q m cq, .string value, .int .i64 0]) (by simp [results, Tryd.results90, go_sem, x0, x1, x2]) rfl ⟨_, rfl, ⟨_, rfl, (S6.out.store3 hwc).mono (Nat.le_of_lt hwc)⟩, store3_below B6.out⟩
          | false =>
            go_wp2_with fail
            refine (KI.out _ _).mono ?_
            rintro e w7 ⟨rfl, hb7⟩
            have B7 : Hid (Below w.heap.size w w7) := B6.out.trans (hb7.mono B6.out.size)
            obtain ⟨x0, x1, x2, f0, f1, f2, hltx⟩ := X6.out.below hb7
            clear hb7 X6 B6 S6
            go_wp2
            refine bodyPost_ret (v := .agg #[.slice none 0 0, .string ⟨#[]⟩, .int .i64 9]) (by simp [results, Tryd.results90, go_sem, x0, x1, x2]) rfl ⟨_, rfl, ⟨_, rfl, sliceE_none _ _⟩, store3_below B7.out⟩
        | true =>
          cases hq2 : (na.toList == name.toList) with
          | false =>
            have HE : Hid (M = L.take k ++ ⟨key, name, value⟩ :: L.drop k) := HCO2.out (by rw [hq2, Bool.and_false])
            have HOP : Hid (∀ (W : World) (v : Value), W.ownsRow Wc.heap.size 108 3 v (k + 1 + (L.length - k)) (enCells (L.take k) ++ (enVals ⟨key, name, value⟩ ++ enCells (L.drop k))) → SliceE W Wc.heap.size v M) := fun W v h => own_put HE.out (Nat.le_of_lt hlt) h
            have HC3 : Hid (∀ W, Below w.heap.size w W → ∀ j u, (enCells (L.drop k))[j]? = some u → W.cell? ((⟨g, k * 3, none⟩ : Addr).add j) = some u) := HC2.out k
            have hl2 : (enCells (L.drop k)).length = (L.length - k) * 3 := HL2.out k
            have o2 : ∀ v ∈ enCells (L.drop k), v.oneCell' = true := HO2.out k
            have kc : (k : Int) ≤ cap := by omega
            clear HC2 HL2 HO2 HE HCS2 HCO2
            generalize enCells (L.take k) = C1 at *
            generalize enCells (L.drop k) = C2 at *
            have hgc : g < Wc.heap.size := Nat.lt_of_lt_of_le hgw BC.out.size
            have k3 : ¬ (k = cap) := by omega
            have O0 : Hid ((Wc.alloc (.cells #[] 108)).ownsRow Wc.heap.size 108 3 (.slice (some ⟨Wc.heap.size, 0, none⟩) 0 0) 0 (enCells [])) := World.ownsRow_made Wc #[] 0 (Nat.le_refl _) (Nat.zero_le _) rfl
            have AA : Hid (Below Wc.heap.size Wc (Wc.alloc (.cells #[] 108))) := (Below.refl _ _).alloc (Nat.le_refl _) _
            have BA : Hid (Below w.heap.size w (Wc.alloc (.cells #[] 108))) := BC.out.trans (AA.out.mono BC.out.size)
            go_wp2_with (at_builtin; go_must (refine wpList_append_own _ rfl _ _ 54 rfl Wc.heap.size 108 i0 (.agg #[.string ⟨#[]⟩, .string ⟨#[]⟩, .string ⟨#[]⟩]) 3 48 Tryd.underlying54 hi hy0 hy1 hy2 rfl (by decide) _ _ _ rfl O0.out ⟨g, 0, none⟩ k _ C1 rfl hl1 (HC1.out _ BA.out) o1 (by unfold maxLen; omega) (by omega) (by simp) ?_))
            intro v1 w3 ho1 hg1 hn1
            have O1 := ho1
            have A3 : Hid (Below Wc.heap.size Wc w3) := AA.out.grown hg1 (by simp) (fun j hj => own_base O0.out j hj)
            clear ho1 hg1 hn1 O0 AA BA
            have y0 : w3.cell? ⟨w.heap.size + 1, 0, none⟩ = some (.string key) := ((bcell A3.out).1 _ _ hxc).trans xc0
            have y1 : w3.cell? ⟨w.heap.size + 1, 1, none⟩ = some (.string name) := ((bcell A3.out).1 _ _ hxc).trans xc1
            have y2 : w3.cell? ⟨w.heap.size + 1, 2, none⟩ = some (.string value) := ((bcell A3.out).1 _ _ hxc).trans xc2
            have O1h : Hid (World.ownsRow w3 Wc.heap.size 108 3 _ _ _) := O1
            have z3 : Wc.heap.size ≤ w3.heap.size := A3.out.size
            clear O1 xc0 xc1 xc2
            go_wp2_with (at_builtin; go_must (refine wpList_append_own _ rfl _ _ 54 rfl Wc.heap.size 108 i0 (.agg #[.string ⟨#[]⟩, .string ⟨#[]⟩, .string ⟨#[]⟩]) 3 48 Tryd.underlying54 hi hy0 hy1 hy2 rfl (by decide) _ _ _ rfl (O1h.out.alloc _) ⟨w3.heap.size, 0, none⟩ 1 1 (enVals ⟨key, name, value⟩) rfl rfl (cell_En _ ⟨key, name, value⟩ _) (one_En ⟨key, name, value⟩) (by unfold maxLen; omega) (by omega) (by simp; omega) ?_))
            intro v2 w4 ho2 hg2 hn2
            have A4 : Hid (Below Wc.heap.size Wc w4) := (A3.out.alloc z3 _).grown hg2 (by simp; omega) (fun j hj => own_base O1h.out j hj)
            have O2h : Hid (World.ownsRow w4 Wc.heap.size 108 3 v2 _ _) := ho2
            have z4 : Wc.heap.size ≤ w4.heap.size := A4.out.size
            have e0 : w4.cell? ⟨g, k * 3, none⟩ = some (.string ke) := ((bcell A4.out).1 _ _ hgc).trans d0
            have e1 : w4.cell? ⟨g, k * 3 + 1, none⟩ = some (.string na) := ((bcell A4.out).1 _ _ hgc).trans d1
            clear ho2 hg2 hn2 O1h A3 y0 y1 y2
            go_wp2_with (at_builtin; go_must (refine wpList_append_own _ rfl _ _ 54 rfl Wc.heap.size 108 i0 (.agg #[.string ⟨#[]⟩, .string ⟨#[]⟩, .string ⟨#[]⟩]) 3 48 Tryd.underlying54 hi hy0 hy1 hy2 rfl (by decide) _ _ _ rfl O2h.out ⟨g, k * 3, none⟩ (L.length - k) (cap - k) C2 rfl hl2 (HC3.out _ (BC.out.trans (A4.out.mono BC.out.size))) o2 (by unfold maxLen; omega) (by omega) z4 ?_))
            intro v3 w5 ho3 hg3 hn3
            have S5 : Hid (SliceE w5 Wc.heap.size v3 M) := HOP.out _ _ (by have h := ho3; have e0 : enCells [] = [] := rfl; simpa [e0, List.append_assoc] using h)
            have A5 : Hid (Below Wc.heap.size Wc w5) := A4.out.grown hg3 z4 (fun j hj => own_base O2h.out j hj)
            clear ho3 hg3 hn3
            clear O2h A4
            obtain ⟨q, cq, hv⟩ : ∃ q cq, v3 = .slice q M.length cq := by obtain ⟨⟨p, cap, e, -⟩, -⟩ := S5.out; exact ⟨p, cap, e⟩
            have X5 : Hid (BoxAt w5 w.heap.size) := XC.out.below A5.out
            have B5 : Hid (Below w.heap.size w w5) := BC.out.trans (A5.out.mono BC.out.size)
            have K5 := KA.out w5 _ _ S5.out
            clear A5 HOP
            generalize hm : M.length = m at *
            subst hv
            go_wp2_with fail
            refine K5.mono ?_
            rintro e w6 ⟨rfl, hb6⟩
            have S6 : Hid (SliceE w6 Wc.heap.size (.slice q m cq) M) := S5.out.below hb6
            have X6 : Hid (BoxAt w6 w.heap.size) := X5.out.below hb6
            have B6 : Hid (Below w.heap.size w w6) := B5.out.trans (hb6.mono B5.out.size)
            have hwc : w.heap.size < Wc.heap.size := XC.out.lt
            clear hb6 S5 X5 B5 K5
            cases ok with
            | true =>
              obtain ⟨x0, x1, x2, f0, f1, f2, hltx⟩ := X6.out
              go_wp2
              refine bodyPost_ret (v := .agg #[.slice q m cq, .string value, .int .i64 0]) (by simp [results, Tryd.results90, go_sem, x0, x1, x2]) rfl ⟨_, rfl, ⟨_, rfl, (S6.out.store3 hwc).mono (Nat.le_of_lt hwc)⟩, store3_below B6.out⟩
            | false =>
              go_wp2_with fail
              refine (KI.out _ _).mono ?_
              rintro e w7 ⟨rfl, hb7⟩
              have B7 : Hid (Below w.heap.size w w7) := B6.out.trans (hb7.mono B6.out.size)
              obtain ⟨x0, x1, x2, f0, f1, f2, hltx⟩ := X6.out.below hb7
              clear hb7 X6 B6 S6
              go_wp2
              refine bodyPost_ret (v := .agg #[.slice none 0 0, .string ⟨#[]⟩, .int .i64 9]) (by simp [results, Tryd.results90, go_sem, x0, x1, x2]) rfl ⟨_, rfl, ⟨_, rfl, sliceE_none _ _⟩, store3_below B7.out⟩
          | true =>
            have HE : Hid (M = L.take k ++ ⟨key, name, value⟩ :: L.drop (k + 1)) := HCS2.out hq1 hq2
            have HOP : Hid (∀ (W : World) (v : Value), W.ownsRow Wc.heap.size 108 3 v (k + 1 + (L.length - (k + 1))) (enCells (L.take k) ++ (enVals ⟨key, name, value⟩ ++ enCells (L.drop (k + 1)))) → SliceE W Wc.heap.size v M) := fun W v h => own_put HE.out (Nat.le_of_lt hlt) h
            have HC3 : Hid (∀ W, Below w.heap.size w W → ∀ j u, (enCells (L.drop (k + 1)))[j]? = some u → W.cell? ((⟨g, (k + 1) * 3, none⟩ : Addr).add j) = some u) := HC2.out (k + 1)
            have hl2 : (enCells (L.drop (k + 1))).length = (L.length - (k + 1)) * 3 := HL2.out (k + 1)
            have o2 : ∀ v ∈ enCells (L.drop (k + 1)), v.oneCell' = true := HO2.out (k + 1)
            have kc : (k : Int) ≤ cap := by omega
            clear HC2 HL2 HO2 HE HCS2 HCO2
            generalize enCells (L.take k) = C1 at *
            generalize enCells (L.drop (k + 1)) = C2 at *
            have hgc : g < Wc.heap.size := Nat.lt_of_lt_of_le hgw BC.out.size
            have k2 : ((k : Int) + 1) ≤ (cap : Int) := by omega
            by_cases hcl : k + 1 = cap
            · have hz0 : L.length - (k + 1) = 0 := by omega
              have hC2 : C2 = [] := List.length_eq_zero_iff.1 (by omega)
              have O0 : Hid ((Wc.alloc (.cells #[] 108)).ownsRow Wc.heap.size 108 3 (.slice (some ⟨Wc.heap.size, 0, none⟩) 0 0) 0 (enCells [])) := World.ownsRow_made Wc #[] 0 (Nat.le_refl _) (Nat.zero_le _) rfl
              have AA : Hid (Below Wc.heap.size Wc (Wc.alloc (.cells #[] 108))) := (Below.refl _ _).alloc (Nat.le_refl _) _
              have BA : Hid (Below w.heap.size w (Wc.alloc (.cells #[] 108))) := BC.out.trans (AA.out.mono BC.out.size)
              go_wp2_with (at_builtin; go_must (refine wpList_append_own _ rfl _ _ 54 rfl Wc.heap.size 108 i0 (.agg #[.string ⟨#[]⟩, .string ⟨#[]⟩, .string ⟨#[]⟩]) 3 48 Tryd.underlying54 hi hy0 hy1 hy2 rfl (by decide) _ _ _ rfl O0.out ⟨g, 0, none⟩ k _ C1 rfl hl1 (HC1.out _ BA.out) o1 (by unfold maxLen; omega) (by omega) (by simp) ?_))
              intro v1 w3 ho1 hg1 hn1
              have O1 := ho1
              have A3 : Hid (Below Wc.heap.size Wc w3) := AA.out.grown hg1 (by simp) (fun j hj => own_base O0.out j hj)
              clear ho1 hg1 hn1 O0 AA BA
              have y0 : w3.cell? ⟨w.heap.size + 1, 0, none⟩ = some (.string key) := ((bcell A3.out).1 _ _ hxc).trans xc0
              have y1 : w3.cell? ⟨w.heap.size + 1, 1, none⟩ = some (.string name) := ((bcell A3.out).1 _ _ hxc).trans xc1
              have y2 : w3.cell? ⟨w.heap.size + 1, 2, none⟩ = some (.string value) := ((bcell A3.out).1 _ _ hxc).trans xc2
              have O1h : Hid (World.ownsRow w3 Wc.heap.size 108 3 _ _ _) := O1
              have z3 : Wc.heap.size ≤ w3.heap.size := A3.out.size
              clear O1 xc0 xc1 xc2
              go_wp2_with (at_builtin; go_must (refine wpList_append_own _ rfl _ _ 54 rfl Wc.heap.size 108 i0 (.agg #[.string ⟨#[]⟩, .string ⟨#[]⟩, .string ⟨#[]⟩]) 3 48 Tryd.underlying54 hi hy0 hy1 hy2 rfl (by decide) _ _ _ rfl (O1h.out.alloc _) ⟨w3.heap.size, 0, none⟩ 1 1 (enVals ⟨key, name, value⟩) rfl rfl (cell_En _ ⟨key, name, value⟩ _) (one_En ⟨key, name, value⟩) (by unfold maxLen; omega) (by omega) (by simp; omega) ?_))
              intro v2 w4 ho2 hg2 hn2
              have A4 : Hid (Below Wc.heap.size Wc w4) := (A3.out.alloc z3 _).grown hg2 (by simp; omega) (fun j hj => own_base O1h.out j hj)
              have O2h : Hid (World.ownsRow w4 Wc.heap.size 108 3 v2 _ _) := ho2
              have z4 : Wc.heap.size ≤ w4.heap.size := A4.out.size
              have e0 : w4.cell? ⟨g, k * 3, none⟩ = some (.string ke) := ((bcell A4.out).1 _ _ hgc).trans d0
              have e1 : w4.cell? ⟨g, k * 3 + 1, none⟩ = some (.string na) := ((bcell A4.out).1 _ _ hgc).trans d1
              clear ho2 hg2 hn2 O1h A3 y0 y1 y2
              go_wp2_with (at_builtin; go_must (refine wpList_append_own _ rfl _ _ 54 rfl Wc.heap.size 108 i0 (.agg #[.string ⟨#[]⟩, .string ⟨#[]⟩, .string ⟨#[]⟩]) 3 48 Tryd.underlying54 hi hy0 hy1 hy2 rfl (by decide) _ _ _ rfl O2h.out ⟨g, 0, none⟩ 0 0 [] rfl rfl (by intro j u h; cases h) (by intro v h; cases h)  (by unfold maxLen; omega) (by omega) z4 ?_))
              intro v3 w5 ho3 hg3 hn3
              have S5 : Hid (SliceE w5 Wc.heap.size v3 M) := HOP.out _ _ (by have h := ho3; have e0 : enCells [] = [] := rfl; rw [hz0, hC2]; simpa [e0, List.append_assoc, hcl] using h)
              have A5 : Hid (Below Wc.heap.size Wc w5) := A4.out.grown hg3 z4 (fun j hj => own_base O2h.out j hj)
              clear ho3 hg3 hn3
              clear O2h A4
              obtain ⟨q, cq, hv⟩ : ∃ q cq, v3 = .slice q M.length cq := by obtain ⟨⟨p, cap, e, -⟩, -⟩ := S5.out; exact ⟨p, cap, e⟩
              have X5 : Hid (BoxAt w5 w.heap.size) := XC.out.below A5.out
              have B5 : Hid (Below w.heap.size w w5) := BC.out.trans (A5.out.mono BC.out.size)
              have K5 := KA.out w5 _ _ S5.out
              clear A5 HOP
              generalize hm : M.length = m at *
              subst hv
              go_wp2_with fail
              refine K5.mono ?_
              rintro e w6 ⟨rfl, hb6⟩
              have S6 : Hid (SliceE w6 Wc.heap.size (.slice q m cq) M) := S5.out.below hb6
              have X6 : Hid (BoxAt w6 w.heap.size) := X5.out.below hb6
              have B6 : Hid (Below w.heap.size w w6) := B5.out.trans (hb6.mono B5.out.size)
              have hwc : w.heap.size < Wc.heap.size := XC.out.lt
              clear hb6 S5 X5 B5 K5
              cases ok with
              | true =>
                obtain ⟨x0, x1, x2, f0, f1, f2, hltx⟩ := X6.out
                go_wp2
                refine bodyPost_ret (v := .agg #[.slice q m cq, .string value, .int .i64 0]) (by simp [results, Tryd.results90, go_sem, x0, x1, x2]) rfl ⟨_, rfl, ⟨_, rfl, (S6.out.store3 hwc).mono (Nat.le_of_lt hwc)⟩, store3_below B6.out⟩
              | false =>
                go_wp2_with fail
                refine (KI.out _ _).mono ?_
                rintro e w7 ⟨rfl, hb7⟩
                have B7 : Hid (Below w.heap.size w w7) := B6.out.trans (hb7.mono B6.out.size)
                obtain ⟨x0, x1, x2, f0, f1, f2, hltx⟩ := X6.out.below hb7
                clear hb7 X6 B6 S6
                go_wp2
                refine bodyPost_ret (v := .agg #[.slice none 0 0, .string ⟨#[]⟩, .int .i64 9]) (by simp [results, Tryd.results90, go_sem, x0, x1, x2]) rfl ⟨_, rfl, ⟨_, rfl, sliceE_none _ _⟩, store3_below B7.out⟩
            · have k4 : ¬ (k + 1 = cap) := hcl
              have O0 : Hid ((Wc.alloc (.cells #[] 108)).ownsRow Wc.heap.size 108 3 (.slice (some ⟨Wc.heap.size, 0, none⟩) 0 0) 0 (enCells [])) := World.ownsRow_made Wc #[] 0 (Nat.le_refl _) (Nat.zero_le _) rfl
              have AA : Hid (Below Wc.heap.size Wc (Wc.alloc (.cells #[] 108))) := (Below.refl _ _).alloc (Nat.le_refl _) _
              have BA : Hid (Below w.heap.size w (Wc.alloc (.cells #[] 108))) := BC.out.trans (AA.out.mono BC.out.size)
              go_wp2_with (at_builtin; go_must (refine wpList_append_own _ rfl _ _ 54 rfl Wc.heap.size 108 i0 (.agg #[.string ⟨#[]⟩, .string ⟨#[]⟩, .string ⟨#[]⟩]) 3 48 Tryd.underlying54 hi hy0 hy1 hy2 rfl (by decide) _ _ _ rfl O0.out ⟨g, 0, none⟩ k _ C1 rfl hl1 (HC1.out _ BA.out) o1 (by unfold maxLen; omega) (by omega) (by simp) ?_))
              intro v1 w3 ho1 hg1 hn1
              have O1 := ho1
              have A3 : Hid (Below Wc.heap.size Wc w3) := AA.out.grown hg1 (by simp) (fun j hj => own_base O0.out j hj)
              clear ho1 hg1 hn1 O0 AA BA
              have y0 : w3.cell? ⟨w.heap.size + 1, 0, none⟩ = some (.string key) := ((bcell A3.out).1 _ _ hxc).trans xc0
              have y1 : w3.cell? ⟨w.heap.size + 1, 1, none⟩ = some (.string name) := ((bcell A3.out).1 _ _ hxc).trans xc1
              have y2 : w3.cell? ⟨w.heap.size + 1, 2, none⟩ = some (.string value) := ((bcell A3.out).1 _ _ hxc).trans xc2
              have O1h : Hid (World.ownsRow w3 Wc.heap.size 108 3 _ _ _) := O1
              have z3 : Wc.heap.size ≤ w3.heap.size := A3.out.size
              clear O1 xc0 xc1 xc2
              go_wp2_with (at_builtin; go_must (refine wpList_append_own _ rfl _ _ 54 rfl Wc.heap.size 108 i0 (.agg #[.string ⟨#[]⟩, .string ⟨#[]⟩, .string ⟨#[]⟩]) 3 48 Tryd.underlying54 hi hy0 hy1 hy2 rfl (by decide) _ _ _ rfl (O1h.out.alloc _) ⟨w3.heap.size, 0, none⟩ 1 1 (enVals ⟨key, name, value⟩) rfl rfl (cell_En _ ⟨key, name, value⟩ _) (one_En ⟨key, name, value⟩) (by unfold maxLen; omega) (by omega) (by simp; omega) ?_))
              intro v2 w4 ho2 hg2 hn2
              have A4 : Hid (Below Wc.heap.size Wc w4) := (A3.out.alloc z3 _).grown hg2 (by simp; omega) (fun j hj => own_base O1h.out j hj)
              have O2h : Hid (World.ownsRow w4 Wc.heap.size 108 3 v2 _ _) := ho2
              have z4 : Wc.heap.size ≤ w4.heap.size := A4.out.size
              have e0 : w4.cell? ⟨g, k * 3, none⟩ = some (.string ke) := ((bcell A4.out).1 _ _ hgc).trans d0
              have e1 : w4.cell? ⟨g, k * 3 + 1, none⟩ = some (.string na) := ((bcell A4.out).1 _ _ hgc).trans d1
              clear ho2 hg2 hn2 O1h A3 y0 y1 y2
              go_wp2_with (at_builtin; go_must (refine wpList_append_own _ rfl _ _ 54 rfl Wc.heap.size 108 i0 (.agg #[.string ⟨#[]⟩, .string ⟨#[]⟩, .string ⟨#[]⟩]) 3 48 Tryd.underlying54 hi hy0 hy1 hy2 rfl (by decide) _ _ _ rfl O2h.out ⟨g, (k + 1) * 3, none⟩ (L.length - (k + 1)) (cap - (k + 1)) C2 rfl hl2 (HC3.out _ (BC.out.trans (A4.out.mono BC.out.size))) o2 (by unfold maxLen; omega) (by omega) z4 ?_))
              intro v3 w5 ho3 hg3 hn3
              have S5 : Hid (SliceE w5 Wc.heap.size v3 M) := HOP.out _ _ (by have h := ho3; have e0 : enCells [] = [] := rfl; simpa [e0, List.append_assoc] using h)
              have A5 : Hid (Below Wc.heap.size Wc w5) := A4.out.grown hg3 z4 (fun j hj => own_base O2h.out j hj)
              clear ho3 hg3 hn3
              clear O2h A4
              obtain ⟨q, cq, hv⟩ : ∃ q cq, v3 = .slice q M.length cq := by obtain ⟨⟨p, cap, e, -⟩, -⟩ := S5.out; exact ⟨p, cap, e⟩
              have X5 : Hid (BoxAt w5 w.heap.size) := XC.out.below A5.out
              have B5 : Hid (Below w.heap.size w w5) := BC.out.trans (A5.out.mono BC.out.size)
              have K5 := KA.out w5 _ _ S5.out
              clear A5 HOP
              generalize hm : M.length = m at *
              subst hv
              go_wp2_with fail
              refine K5.mono ?_
              rintro e w6 ⟨rfl, hb6⟩
              have S6 : Hid (SliceE w6 Wc.heap.size (.slice q m cq) M) := S5.out.below hb6
              have X6 : Hid (BoxAt w6 w.heap.size) := X5.out.below hb6
              have B6 : Hid (Below w.heap.size w w6) := B5.out.trans (hb6.mono B5.out.size)
              have hwc : w.heap.size < Wc.heap.size := XC.out.lt
              clear hb6 S5 X5 B5 K5
              cases ok with
              | true =>
                obtain ⟨x0, x1, x2, f0, f1, f2, hltx⟩ := X6.out
                go_wp2
                refine bodyPost_ret (v := .agg #[.slice q m cq, .string value, .int .i64 0]) (by simp [results, Tryd.results90, go_sem, x0, x1, x2]) rfl ⟨_, rfl, ⟨_, rfl, (S6.out.store3 hwc).mono (Nat.le_of_lt hwc)⟩, store3_below B6.out⟩
              | false =>
                go_wp2_with fail
                refine (KI.out _ _).mono ?_
                rintro e w7 ⟨rfl, hb7⟩
                have B7 : Hid (Below w.heap.size w w7) := B6.out.trans (hb7.mono B6.out.size)
                obtain ⟨x0, x1, x2, f0, f1, f2, hltx⟩ := X6.out.below hb7
                clear hb7 X6 B6 S6
                go_wp2
                refine bodyPost_ret (v := .agg #[.slice none 0 0, .string ⟨#[]⟩, .int .i64 9]) (by simp [results, Tryd.results90, go_sem, x0, x1, x2]) rfl ⟨_, rfl, ⟨_, rfl, sliceE_none _ _⟩, store3_below B7.out⟩
    · obtain rfl : k = L.length := by omega
      have HE : Hid (M = L.take L.length ++ ⟨key, name, value⟩ :: L.drop L.length) := HCE.out HM.out
      have q1 : decide ((L.length : Int) < (L.length : Int)) = false := by rw [decide_eq_false_iff_not]; omega
      have BW : Hid (Below w.heap.size w wr.drew) := B0.out.trans ((HB.out.mono B0.out.size).drew)
      have XW : Hid (BoxAt wr.drew w.heap.size) := X0.out.below HB.out.drew
      have xc0 : wr.drew.cell? ⟨w.heap.size + 1, 0, none⟩ = some (.string key) := xr0
      have xc1 : wr.drew.cell? ⟨w.heap.size + 1, 1, none⟩ = some (.string name) := xr1
      have xc2 : wr.drew.cell? ⟨w.heap.size + 1, 2, none⟩ = some (.string value) := xr2
      have hxc : w.heap.size + 1 < wr.drew.heap.size := hxr
      clear KL HCS HCO HCE HM
      go_upto_region 3 with fail
      refine wp_region_held_drew (S := (fun w' => w'.cell? ⟨w.heap.size + 1, 0, none⟩ = some (.string key))) (by kernel_rfl) ?_ (fun hH0 => ?_)
      · (try dsimp only)
        go_keep
      refine wpAnyH_take (i := 0) (oi := { dst := some 16, op := Op.move (Operand.tmp 10), type := 3, pos := "l07_area.go:51", after := #[], guard := none }) (v := ?vc0) rfl (by kernel_rfl) (by kernel_rfl) (by kernel_rfl) (fun _ _ _ h => h) (Or.inl ⟨by rfl, ?hyc0⟩) (by assumption) ?restc0
      case hyc0 =>
        intro w hSw
        (try dsimp only at hSw)
        go_simp
        try with_reducible rfl
      try simp only [Act.put, List.setIfInBounds_toArray, List.set_cons_zero, List.set_cons_succ]
      refine wpAnyH_take (i := 1) (oi := { dst := some 17, op := Op.move (Operand.tmp 0), type := 54, pos := "l07_area.go:51", after := #[], guard := none }) (v := ?vc1) rfl (by kernel_rfl) (by kernel_rfl) (by kernel_rfl) (fun _ _ _ h => h) (Or.inl ⟨by rfl, ?hyc1⟩) (by assumption) ?restc1
      case hyc1 =>
        intro w hSw
        (try dsimp only at hSw)
        go_simp
        try with_reducible rfl
      try simp only [Act.put, List.setIfInBounds_toArray, List.set_cons_zero, List.set_cons_succ]
      refine wpAnyH_take (i := 2) (oi := { dst := some 18, op := Op.call { callee := Callee.builtin Builtin.len, args := #[Operand.tmp 17], argTypes := #[54] }, type := 3, pos := "l07_area.go:51", after := #[{ on := 1, ground := Ground.data }], guard := none }) (v := ?vc2) rfl (by kernel_rfl) (by kernel_rfl) (by kernel_rfl) (fun _ _ _ h => h) (Or.inl ⟨by rfl, ?hyc2⟩) (by assumption) ?restc2
      case hyc2 =>
        intro w hSw
        (try dsimp only at hSw)
        go_simp
        try with_reducible rfl
      try simp only [Act.put, List.setIfInBounds_toArray, List.set_cons_zero, List.set_cons_succ]
      refine wpAnyH_take (i := 3) (oi := { dst := some 19, op := Op.binOp BinOp.lss 3 (Operand.tmp 16) (Operand.tmp 18) 3, type := 4, pos := "l07_area.go:51", after := #[{ on := 0, ground := Ground.data }, { on := 2, ground := Ground.data }], guard := none }) (v := ?vc3) rfl (by kernel_rfl) (by kernel_rfl) (by kernel_rfl) (fun _ _ _ h => h) (Or.inl ⟨by rfl, ?hyc3⟩) (by assumption) ?restc3
      case hyc3 =>
        intro w hSw
        (try dsimp only at hSw)
        go_simp
        try with_reducible rfl
      try simp only [Act.put, List.setIfInBounds_toArray, List.set_cons_zero, List.set_cons_succ]
      refine wpAnyH_take (i := 4) (oi := { dst := some 20, op := Op.move (Operand.tmp 19), type := 4, pos := "l07_area.go:51", after := #[{ on := 3, ground := Ground.data }], guard := none }) (v := ?vc4) rfl (by kernel_rfl) (by kernel_rfl) (by kernel_rfl) (fun _ _ _ h => h) (Or.inl ⟨by rfl, ?hyc4⟩) (by assumption) ?restc4
      case hyc4 =>
        intro w hSw
        (try dsimp only at hSw)
        go_simp
        try with_reducible rfl
      try simp only [Act.put, List.setIfInBounds_toArray, List.set_cons_zero, List.set_cons_succ]
      refine wpAnyH_take (i := 5) (oi := { dst := some 21, op := Op.move (Operand.tmp 0), type := 54, pos := "l07_area.go:51", after := #[{ on := 4, ground := Ground.guard }], guard := some (4, true) }) (v := undef) rfl (by kernel_rfl) (by kernel_rfl) (by kernel_rfl) (fun _ _ _ h => h) (Or.inr ⟨by rfl, rfl⟩) (by assumption) ?_
      try simp only [Act.put, List.setIfInBounds_toArray, List.set_cons_zero, List.set_cons_succ]
      refine wpAnyH_take (i := 6) (oi := { dst := some 22, op := Op.move (Operand.tmp 10), type := 3, pos := "l07_area.go:51", after := #[{ on := 4, ground := Ground.guard }], guard := some (4, true) }) (v := undef) rfl (by kernel_rfl) (by kernel_rfl) (by kernel_rfl) (fun _ _ _ h => h) (Or.inr ⟨by rfl, rfl⟩) (by assumption) ?_
      try simp only [Act.put, List.setIfInBounds_toArray, List.set_cons_zero, List.set_cons_succ]
      refine wpAnyH_take (i := 7) (oi := { dst := some 23, op := Op.indexAddr 54 (Operand.tmp 21) (Operand.tmp 22), type := 0, pos := "l07_area.go:51", after := #[{ on := 5, ground := Ground.data }, { on := 6, ground := Ground.data }, { on := 4, ground := Ground.guard }], guard := some (4, true) }) (v := undef) rfl (by kernel_rfl) (by kernel_rfl) (by kernel_rfl) (fun _ _ _ h => h) (Or.inr ⟨by rfl, rfl⟩) (by assumption) ?_
      try simp only [Act.put, List.setIfInBounds_toArray, List.set_cons_zero, List.set_cons_succ]
      refine wpAnyH_take (i := 8) (oi := { dst := some 24, op := Op.load 108 (Operand.tmp 23), type := 108, pos := "l07_area.go:51", after := #[{ on := 7, ground := Ground.data }, { on := 4, ground := Ground.guard }], guard := some (4, true) }) (v := undef) rfl (by kernel_rfl) (by kernel_rfl) (by kernel_rfl) (fun _ _ _ h => h) (Or.inr ⟨by rfl, rfl⟩) (by assumption) ?_
      try simp only [Act.put, List.setIfInBounds_toArray, List.set_cons_zero, List.set_cons_succ]
      refine wpAnyH_take (i := 9) (oi := { dst := some 25, op := Op.load 108 (Operand.tmp 9), type := 108, pos := "l07_area.go:51", after := #[{ on := 4, ground := Ground.guard }], guard := some (4, true) }) (v := undef) rfl (by kernel_rfl) (by kernel_rfl) (by kernel_rfl) (fun _ _ _ h => h) (Or.inr ⟨by rfl, rfl⟩) (by assumption) ?_
      try simp only [Act.put, List.setIfInBounds_toArray, List.set_cons_zero, List.set_cons_succ]
      refine wpAnyH_take (i := 10) (oi := { dst := some 26, op := Op.call { callee := Callee.value (Operand.func 138), args := #[Operand.tmp 24, Operand.tmp 25], argTypes := #[108, 108] }, type := 4, pos := "l07_area.go:51", after := #[{ on := 8, ground := Ground.data }, { on := 9, ground := Ground.data }, { on := 4, ground := Ground.chain }, { on := 4, ground := Ground.guard }], guard := some (4, true) }) (v := undef) rfl (by kernel_rfl) (by kernel_rfl) (by kernel_rfl) (fun _ _ _ h => h) (Or.inr ⟨by rfl, rfl⟩) (by assumption) ?_
      try simp only [Act.put, List.setIfInBounds_toArray, List.set_cons_zero, List.set_cons_succ]
      refine wpAnyH_take (i := 11) (oi := { dst := some 27, op := Op.pick (Operand.tmp 20) (Operand.tmp 26) (Operand.const (Value.bool false)), type := 4, pos := "l07_area.go:51", after := #[{ on := 4, ground := Ground.data }, { on := 10, ground := Ground.data }], guard := none }) (v := ?vc11) rfl (by kernel_rfl) (by kernel_rfl) (by kernel_rfl) (fun _ _ _ h => h) (Or.inl ⟨by rfl, ?hyc11⟩) (by assumption) ?restc11
      case hyc11 =>
        intro w hSw
        (try dsimp only at hSw)
        go_simp
        try with_reducible rfl
      try simp only [Act.put, List.setIfInBounds_toArray, List.set_cons_zero, List.set_cons_succ]
      refine wpAnyH_done (by kernel_rfl) ?_ _
      have BC := BW
      have XC := XW
      clear BW XW X0 B0 HB hx0 U0 xr0 xr1 xr2 hxr
      generalize hwc5 : wr.drew = Wc at *
      clear hwc5
      by_cases h0 : 0 < L.length
      · obtain ⟨g, rfl, hgw, hc⟩ := HG.out h0
        have hc2 : ∀ W, Below w.heap.size w W → ∀ j, j < L.length → ∀ o, o < 3 → W.cell? ⟨g, j * 3 + o, none⟩ = some (enC (atE L j) o) := fun W hb j hj o ho => by rw [(bcell hb).1 _ _ hgw]; exact hc j hj o ho
        have HC1 : Hid (∀ W, Below w.heap.size w W → ∀ j u, (enCells L)[j]? = some u → W.cell? ((⟨g, 0, none⟩ : Addr).add j) = some u) := fun W hb => by
          have := cells_part (hc2 W hb) 0 L (fun j hj => ⟨by rw [Nat.zero_add], by omega⟩)
          simpa using this
        have hl1 : (enCells L).length = L.length * 3 := enCells_len L
        have o1 : ∀ v ∈ enCells L, v.oneCell' = true := one_cells _
        have HOP : Hid (∀ (W : World) (v : Value), W.ownsRow Wc.heap.size 108 3 v (L.length + 1) (enCells L ++ enVals ⟨key, name, value⟩) → SliceE W Wc.heap.size v M) := fun W v h => own_put HE.out (Nat.le_refl _) (by
          rw [List.take_length, List.drop_length, Nat.sub_self, Nat.add_zero, show enCells [] = [] from rfl, List.append_nil]; exact h)
        have k1 : (L.length : Int) ≤ cap := by omega
        clear hc hc2 HE
        generalize enCells L = C1 at *
        by_cases hcl : L.length = cap
        · subst hcl
          have O0 : Hid ((Wc.alloc (.cells #[] 108)).ownsRow Wc.heap.size 108 3 (.slice (some ⟨Wc.heap.size, 0, none⟩) 0 0) 0 (enCells [])) := World.ownsRow_made Wc #[] 0 (Nat.le_refl _) (Nat.zero_le _) rfl
          have AA : Hid (Below Wc.heap.size Wc (Wc.alloc (.cells #[] 108))) := (Below.refl _ _).alloc (Nat.le_refl _) _
          have BA : Hid (Below w.heap.size w (Wc.alloc (.cells #[] 108))) := BC.out.trans (AA.out.mono BC.out.size)
          go_wp2_with (at_builtin; go_must (refine wpList_append_own _ rfl _ _ 54 rfl Wc.heap.size 108 i0 (.agg #[.string ⟨#[]⟩, .string ⟨#[]⟩, .string ⟨#[]⟩]) 3 48 Tryd.underlying54 hi hy0 hy1 hy2 rfl (by decide) _ _ _ rfl O0.out ⟨g, 0, none⟩ L.length _ C1 rfl hl1 (HC1.out _ BA.out) o1 (by unfold maxLen; omega) (by omega) (by simp) ?_))
          intro v1 w3 ho1 hg1 hn1
          have O1 := ho1
          have A3 : Hid (Below Wc.heap.size Wc w3) := AA.out.grown hg1 (by simp) (fun j hj => own_base O0.out j hj)
          clear ho1 hg1 hn1 O0 AA BA
          have y0 : w3.cell? ⟨w.heap.size + 1, 0, none⟩ = some (.string key) := ((bcell A3.out).1 _ _ hxc).trans xc0
          have y1 : w3.cell? ⟨w.heap.size + 1, 1, none⟩ = some (.string name) := ((bcell A3.out).1 _ _ hxc).trans xc1
          have y2 : w3.cell? ⟨w.heap.size + 1, 2, none⟩ = some (.string value) := ((bcell A3.out).1 _ _ hxc).trans xc2
          have O1h : Hid (World.ownsRow w3 Wc.heap.size 108 3 _ _ _) := O1
          have z3 : Wc.heap.size ≤ w3.heap.size := A3.out.size
          clear O1 xc0 xc1 xc2
          go_wp2_with (at_builtin; go_must (refine wpList_append_own _ rfl _ _ 54 rfl Wc.heap.size 108 i0 (.agg #[.string ⟨#[]⟩, .string ⟨#[]⟩, .string ⟨#[]⟩]) 3 48 Tryd.underlying54 hi hy0 hy1 hy2 rfl (by decide) _ _ _ rfl (O1h.out.alloc _) ⟨w3.heap.size, 0, none⟩ 1 1 (enVals ⟨key, name, value⟩) rfl rfl (cell_En _ ⟨key, name, value⟩ _) (one_En ⟨key, name, value⟩) (by unfold maxLen; omega) (by omega) (by simp; omega) ?_))
          intro v2 w4 ho2 hg2 hn2
          have A4 : Hid (Below Wc.heap.size Wc w4) := (A3.out.alloc z3 _).grown hg2 (by simp; omega) (fun j hj => own_base O1h.out j hj)
          have O2h : Hid (World.ownsRow w4 Wc.heap.size 108 3 v2 _ _) := ho2
          have z4 : Wc.heap.size ≤ w4.heap.size := A4.out.size
          clear ho2 hg2 hn2 O1h A3 y0 y1 y2
          go_wp2_with (at_builtin; go_must (refine wpList_append_own _ rfl _ _ 54 rfl Wc.heap.size 108 i0 (.agg #[.string ⟨#[]⟩, .string ⟨#[]⟩, .string ⟨#[]⟩]) 3 48 Tryd.underlying54 hi hy0 hy1 hy2 rfl (by decide) _ _ _ rfl O2h.out ⟨g, 0, none⟩ 0 0 [] rfl rfl (by intro j u h; cases h) (by intro v h; cases h)  (by unfold maxLen; omega) (by omega) z4 ?_))
          intro v3 w5 ho3 hg3 hn3
          have S5 : Hid (SliceE w5 Wc.heap.size v3 M) := HOP.out _ _ (by have h := ho3; have e0 : enCells [] = [] := rfl; simpa [e0, List.append_assoc] using h)
          have A5 : Hid (Below Wc.heap.size Wc w5) := A4.out.grown hg3 z4 (fun j hj => own_base O2h.out j hj)
          clear ho3 hg3 hn3
          clear O2h A4
          obtain ⟨q, cq, hv⟩ : ∃ q cq, v3 = .slice q M.length cq := by obtain ⟨⟨p, cap, e, -⟩, -⟩ := S5.out; exact ⟨p, cap, e⟩
          have X5 : Hid (BoxAt w5 w.heap.size) := XC.out.below A5.out
          have B5 : Hid (Below w.heap.size w w5) := BC.out.trans (A5.out.mono BC.out.size)
          have K5 := KA.out w5 _ _ S5.out
          clear A5 HOP
          generalize hm : M.length = m at *
          subst hv
          go_wp2_with fail
          refine K5.mono ?_
          rintro e w6 ⟨rfl, hb6⟩
          have S6 : Hid (SliceE w6 Wc.heap.size (.slice q m cq) M) := S5.out.below hb6
          have X6 : Hid (BoxAt w6 w.heap.size) := X5.out.below hb6
          have B6 : Hid (Below w.heap.size w w6) := B5.out.trans (hb6.mono B5.out.size)
          have hwc : w.heap.size < Wc.heap.size := XC.out.lt
          clear hb6 S5 X5 B5 K5
          cases ok with
          | true =>
            obtain ⟨x0, x1, x2, f0, f1, f2, hltx⟩ := X6.out
            go_wp2
            refine bodyPost_ret (v := .agg #[.slice q m cq, .string value, .int .i64 0]) (by simp [results, Tryd.results90, go_sem, x0, x1, x2]) rfl ⟨_, rfl, ⟨_, rfl, (S6.out.store3 hwc).mono (Nat.le_of_lt hwc)⟩, store3_below B6.out⟩
          | false =>
            go_wp2_with fail
            refine (KI.out _ _).mono ?_
            rintro e w7 ⟨rfl, hb7⟩
            have B7 : Hid (Below w.heap.size w w7) := B6.out.trans (hb7.mono B6.out.size)
            obtain ⟨x0, x1, x2, f0, f1, f2, hltx⟩ := X6.out.below hb7
            clear hb7 X6 B6 S6
            go_wp2
            refine bodyPost_ret (v := .agg #[.slice none 0 0, .string ⟨#[]⟩, .int .i64 9]) (by simp [results, Tryd.results90, go_sem, x0, x1, x2]) rfl ⟨_, rfl, ⟨_, rfl, sliceE_none _ _⟩, store3_below B7.out⟩
        · have k3 : ¬ (L.length = cap) := hcl
          have O0 : Hid ((Wc.alloc (.cells #[] 108)).ownsRow Wc.heap.size 108 3 (.slice (some ⟨Wc.heap.size, 0, none⟩) 0 0) 0 (enCells [])) := World.ownsRow_made Wc #[] 0 (Nat.le_refl _) (Nat.zero_le _) rfl
          have AA : Hid (Below Wc.heap.size Wc (Wc.alloc (.cells #[] 108))) := (Below.refl _ _).alloc (Nat.le_refl _) _
          have BA : Hid (Below w.heap.size w (Wc.alloc (.cells #[] 108))) := BC.out.trans (AA.out.mono BC.out.size)
          go_wp2_with (at_builtin; go_must (refine wpList_append_own _ rfl _ _ 54 rfl Wc.heap.size 108 i0 (.agg #[.string ⟨#[]⟩, .string ⟨#[]⟩, .string ⟨#[]⟩]) 3 48 Tryd.underlying54 hi hy0 hy1 hy2 rfl (by decide) _ _ _ rfl O0.out ⟨g, 0, none⟩ L.length _ C1 rfl hl1 (HC1.out _ BA.out) o1 (by unfold maxLen; omega) (by omega) (by simp) ?_))
          intro v1 w3 ho1 hg1 hn1
          have O1 := ho1
          have A3 : Hid (Below Wc.heap.size Wc w3) := AA.out.grown hg1 (by simp) (fun j hj => own_base O0.out j hj)
          clear ho1 hg1 hn1 O0 AA BA
          have y0 : w3.cell? ⟨w.heap.size + 1, 0, none⟩ = some (.string key) := ((bcell A3.out).1 _ _ hxc).trans xc0
          have y1 : w3.cell? ⟨w.heap.size + 1, 1, none⟩ = some (.string name) := ((bcell A3.out).1 _ _ hxc).trans xc1
          have y2 : w3.cell? ⟨w.heap.size + 1, 2, none⟩ = some (.string value) := ((bcell A3.out).1 _ _ hxc).trans xc2
          have O1h : Hid (World.ownsRow w3 Wc.heap.size 108 3 _ _ _) := O1
          have z3 : Wc.heap.size ≤ w3.heap.size := A3.out.size
          clear O1 xc0 xc1 xc2
          go_wp2_with (at_builtin; go_must (refine wpList_append_own _ rfl _ _ 54 rfl Wc.heap.size 108 i0 (.agg #[.string ⟨#[]⟩, .string ⟨#[]⟩, .string ⟨#[]⟩]) 3 48 Tryd.underlying54 hi hy0 hy1 hy2 rfl (by decide) _ _ _ rfl (O1h.out.alloc _) ⟨w3.heap.size, 0, none⟩ 1 1 (enVals ⟨key, name, value⟩) rfl rfl (cell_En _ ⟨key, name, value⟩ _) (one_En ⟨key, name, value⟩) (by unfold maxLen; omega) (by omega) (by simp; omega) ?_))
          intro v2 w4 ho2 hg2 hn2
          have A4 : Hid (Below Wc.heap.size Wc w4) := (A3.out.alloc z3 _).grown hg2 (by simp; omega) (fun j hj => own_base O1h.out j hj)
          have O2h : Hid (World.ownsRow w4 Wc.heap.size 108 3 v2 _ _) := ho2
          have z4 : Wc.heap.size ≤ w4.heap.size := A4.out.size
          clear ho2 hg2 hn2 O1h A3 y0 y1 y2
          go_wp2_with (at_builtin; go_must (refine wpList_append_own _ rfl _ _ 54 rfl Wc.heap.size 108 i0 (.agg #[.string ⟨#[]⟩, .string ⟨#[]⟩, .string ⟨#[]⟩]) 3 48 Tryd.underlying54 hi hy0 hy1 hy2 rfl (by decide) _ _ _ rfl O2h.out ⟨g, L.length * 3, none⟩ 0 (cap - L.length) [] rfl rfl (by intro j u h; cases h) (by intro v h; cases h)  (by unfold maxLen; omega) (by omega) z4 ?_))
          intro v3 w5 ho3 hg3 hn3
          have S5 : Hid (SliceE w5 Wc.heap.size v3 M) := HOP.out _ _ (by have h := ho3; have e0 : enCells [] = [] := rfl; simpa [e0, List.append_assoc] using h)
          have A5 : Hid (Below Wc.heap.size Wc w5) := A4.out.grown hg3 z4 (fun j hj => own_base O2h.out j hj)
          clear ho3 hg3 hn3
          clear O2h A4
          obtain ⟨q, cq, hv⟩ : ∃ q cq, v3 = .slice q M.length cq := by obtain ⟨⟨p, cap, e, -⟩, -⟩ := S5.out; exact ⟨p, cap, e⟩
          have X5 : Hid (BoxAt w5 w.heap.size) := XC.out.below A5.out
          have B5 : Hid (Below w.heap.size w w5) := BC.out.trans (A5.out.mono BC.out.size)
          have K5 := KA.out w5 _ _ S5.out
          clear A5 HOP
          generalize hm : M.length = m at *
          subst hv
          go_wp2_with fail
          refine K5.mono ?_
          rintro e w6 ⟨rfl, hb6⟩
          have S6 : Hid (SliceE w6 Wc.heap.size (.slice q m cq) M) := S5.out.below hb6
          have X6 : Hid (BoxAt w6 w.heap.size) := X5.out.below hb6
          have B6 : Hid (Below w.heap.size w w6) := B5.out.trans (hb6.mono B5.out.size)
          have hwc : w.heap.size < Wc.heap.size := XC.out.lt
          clear hb6 S5 X5 B5 K5
          cases ok with
          | true =>
            obtain ⟨x0, x1, x2, f0, f1, f2, hltx⟩ := X6.out
            go_wp2
            refine bodyPost_ret (v := .agg #[.slice q m cq, .string value, .int .i64 0]) (by simp [results, Tryd.results90, go_sem, x0, x1, x2]) rfl ⟨_, rfl, ⟨_, rfl, (S6.out.store3 hwc).mono (Nat.le_of_lt hwc)⟩, store3_below B6.out⟩
          | false =>
            go_wp2_with fail
            refine (KI.out _ _).mono ?_
            rintro e w7 ⟨rfl, hb7⟩
            have B7 : Hid (Below w.heap.size w w7) := B6.out.trans (hb7.mono B6.out.size)
            obtain ⟨x0, x1, x2, f0, f1, f2, hltx⟩ := X6.out.below hb7
            clear hb7 X6 B6 S6
            go_wp2
            refine bodyPost_ret (v := .agg #[.slice none 0 0, .string ⟨#[]⟩, .int .i64 9]) (by simp [results, Tryd.results90, go_sem, x0, x1, x2]) rfl ⟨_, rfl, ⟨_, rfl, sliceE_none _ _⟩, store3_below B7.out⟩
      · obtain rfl : L = [] := List.length_eq_zero_iff.1 (by omega)
        have HOP : Hid (∀ (W : World) (v : Value), W.ownsRow Wc.heap.size 108 3 v 1 (enVals ⟨key, name, value⟩) → SliceE W Wc.heap.size v M) := fun W v h => own_put HE.out (Nat.le_refl _) h
        clear HE
        cases p with
        | none =>
          obtain rfl : cap = 0 := HP.out rfl
          have O0 : Hid ((Wc.alloc (.cells #[] 108)).ownsRow Wc.heap.size 108 3 (.slice (some ⟨Wc.heap.size, 0, none⟩) 0 0) 0 (enCells [])) := World.ownsRow_made Wc #[] 0 (Nat.le_refl _) (Nat.zero_le _) rfl
          have AA : Hid (Below Wc.heap.size Wc (Wc.alloc (.cells #[] 108))) := (Below.refl _ _).alloc (Nat.le_refl _) _
          have BA : Hid (Below w.heap.size w (Wc.alloc (.cells #[] 108))) := BC.out.trans (AA.out.mono BC.out.size)
          go_wp2_with (at_builtin; go_must (refine append_none_stop rfl _ _ 54 rfl Wc.heap.size 108 i0 3 Tryd.underlying54 hi _ _ _ rfl O0.out rfl ?_))
          intro v1 hv1
          obtain rfl := hv1.out
          go_wp2_with (at_builtin; go_must (refine wpList_append_own _ rfl _ _ 54 rfl Wc.heap.size 108 i0 (.agg #[.string ⟨#[]⟩, .string ⟨#[]⟩, .string ⟨#[]⟩]) 3 48 Tryd.underlying54 hi hy0 hy1 hy2 rfl (by decide) _ _ _ rfl (O0.out.alloc _) ⟨Wc.heap.size + 1, 0, none⟩ 1 1 (enVals ⟨key, name, value⟩) rfl rfl (by simpa using cell_En (Wc.alloc (.cells #[] 108)) ⟨key, name, value⟩ _) (one_En ⟨key, name, value⟩) (by unfold maxLen; omega) (by omega) (by simp; omega) ?_))
          intro v2 w4 ho2 hg2 hn2
          have A4 : Hid (Below Wc.heap.size Wc w4) := (AA.out.alloc (by simp) _).grown hg2 (by simp; omega) (fun j hj => own_base O0.out j hj)
          have O2h : Hid (World.ownsRow w4 Wc.heap.size 108 3 v2 _ _) := ho2
          have S5 : Hid (SliceE w4 Wc.heap.size v2 M) := HOP.out _ _ (by have h := ho2; have e0 : enCells [] = [] := rfl; simpa [e0] using h)
          clear ho2 hg2 hn2 O0 AA BA xc0 xc1 xc2
          go_wp2_with (at_builtin; go_must (refine append_none_stop rfl _ _ 54 rfl Wc.heap.size 108 i0 3 Tryd.underlying54 hi _ _ _ rfl O2h.out rfl ?_))
          intro v3 hv3
          obtain rfl : v2 = v3 := hv3.out.symm
          clear O2h
          obtain ⟨q, cq, hv⟩ : ∃ q cq, v2 = .slice q M.length cq := by obtain ⟨⟨p, cap, e, -⟩, -⟩ := S5.out; exact ⟨p, cap, e⟩
          have X5 : Hid (BoxAt w4 w.heap.size) := XC.out.below A4.out
          have B5 : Hid (Below w.heap.size w w4) := BC.out.trans (A4.out.mono BC.out.size)
          have K5 := KA.out w4 _ _ S5.out
          clear A4 HOP
          generalize hm : M.length = m at *
          subst hv
          go_wp2_with fail
          refine K5.mono ?_
          rintro e w6 ⟨rfl, hb6⟩
          have S6 : Hid (SliceE w6 Wc.heap.size (.slice q m cq) M) := S5.out.below hb6
          have X6 : Hid (BoxAt w6 w.heap.size) := X5.out.below hb6
          have B6 : Hid (Below w.heap.size w w6) := B5.out.trans (hb6.mono B5.out.size)
          have hwc : w.heap.size < Wc.heap.size := XC.out.lt
          clear hb6 S5 X5 B5 K5
          cases ok with
          | true =>
            obtain ⟨x0, x1, x2, f0, f1, f2, hltx⟩ := X6.out
            go_wp2
            refine bodyPost_ret (v := .agg #[.slice q m cq, .string value, .int .i64 0]) (by simp [results, Tryd.results90, go_sem, x0, x1, x2]) rfl ⟨_, rfl, ⟨_, rfl, (S6.out.store3 hwc).mono (Nat.le_of_lt hwc)⟩, store3_below B6.out⟩
          | false =>
            go_wp2_with fail
            refine (KI.out _ _).mono ?_
            rintro e w7 ⟨rfl, hb7⟩
            have B7 : Hid (Below w.heap.size w w7) := B6.out.trans (hb7.mono B6.out.size)
            obtain ⟨x0, x1, x2, f0, f1, f2, hltx⟩ := X6.out.below hb7
            clear hb7 X6 B6 S6
            go_wp2
            refine bodyPost_ret (v := .agg #[.slice none 0 0, .string ⟨#[]⟩, .int .i64 9]) (by simp [results, Tryd.results90, go_sem, x0, x1, x2]) rfl ⟨_, rfl, ⟨_, rfl, sliceE_none _ _⟩, store3_below B7.out⟩
        | some a =>
          by_cases hc0 : cap = 0
          · subst hc0
            have O0 : Hid ((Wc.alloc (.cells #[] 108)).ownsRow Wc.heap.size 108 3 (.slice (some ⟨Wc.heap.size, 0, none⟩) 0 0) 0 (enCells [])) := World.ownsRow_made Wc #[] 0 (Nat.le_refl _) (Nat.zero_le _) rfl
            have AA : Hid (Below Wc.heap.size Wc (Wc.alloc (.cells #[] 108))) := (Below.refl _ _).alloc (Nat.le_refl _) _
            have BA : Hid (Below w.heap.size w (Wc.alloc (.cells #[] 108))) := BC.out.trans (AA.out.mono BC.out.size)
            go_wp2_with (at_builtin; go_must (refine wpList_append_own _ rfl _ _ 54 rfl Wc.heap.size 108 i0 (.agg #[.string ⟨#[]⟩, .string ⟨#[]⟩, .string ⟨#[]⟩]) 3 48 Tryd.underlying54 hi hy0 hy1 hy2 rfl (by decide) _ _ _ rfl O0.out _ _ _ [] rfl rfl (by intro j u h; cases h) (by intro v h; cases h)  (by unfold maxLen; omega) (by omega) (by simp) ?_))
            intro v1 w3 ho1 hg1 hn1
            have O1 := ho1
            have A3 : Hid (Below Wc.heap.size Wc w3) := AA.out.grown hg1 (by simp) (fun j hj => own_base O0.out j hj)
            clear ho1 hg1 hn1 O0 AA BA
            have y0 : w3.cell? ⟨w.heap.size + 1, 0, none⟩ = some (.string key) := ((bcell A3.out).1 _ _ hxc).trans xc0
            have y1 : w3.cell? ⟨w.heap.size + 1, 1, none⟩ = some (.string name) := ((bcell A3.out).1 _ _ hxc).trans xc1
            have y2 : w3.cell? ⟨w.heap.size + 1, 2, none⟩ = some (.string value) := ((bcell A3.out).1 _ _ hxc).trans xc2
            have O1h : Hid (World.ownsRow w3 Wc.heap.size 108 3 _ _ _) := O1
            have z3 : Wc.heap.size ≤ w3.heap.size := A3.out.size
            clear O1 xc0 xc1 xc2
            go_wp2_with (at_builtin; go_must (refine wpList_append_own _ rfl _ _ 54 rfl Wc.heap.size 108 i0 (.agg #[.string ⟨#[]⟩, .string ⟨#[]⟩, .string ⟨#[]⟩]) 3 48 Tryd.underlying54 hi hy0 hy1 hy2 rfl (by decide) _ _ _ rfl (O1h.out.alloc _) ⟨w3.heap.size, 0, none⟩ 1 1 (enVals ⟨key, name, value⟩) rfl rfl (cell_En _ ⟨key, name, value⟩ _) (one_En ⟨key, name, value⟩) (by unfold maxLen; omega) (by omega) (by simp; omega) ?_))
            intro v2 w4 ho2 hg2 hn2
            have A4 : Hid (Below Wc.heap.size Wc w4) := (A3.out.alloc z3 _).grown hg2 (by simp; omega) (fun j hj => own_base O1h.out j hj)
            have O2h : Hid (World.ownsRow w4 Wc.heap.size 108 3 v2 _ _) := ho2
            have z4 : Wc.heap.size ≤ w4.heap.size := A4.out.size
            clear ho2 hg2 hn2 O1h A3 y0 y1 y2
            go_wp2_with (at_builtin; go_must (refine wpList_append_own _ rfl _ _ 54 rfl Wc.heap.size 108 i0 (.agg #[.string ⟨#[]⟩, .string ⟨#[]⟩, .string ⟨#[]⟩]) 3 48 Tryd.underlying54 hi hy0 hy1 hy2 rfl (by decide) _ _ _ rfl O2h.out _ _ _ [] rfl rfl (by intro j u h; cases h) (by intro v h; cases h)  (by unfold maxLen; omega) (by omega) z4 ?_))
            intro v3 w5 ho3 hg3 hn3
            have S5 : Hid (SliceE w5 Wc.heap.size v3 M) := HOP.out _ _ (by have h := ho3; have e0 : enCells [] = [] := rfl; simpa [e0] using h)
            have A5 : Hid (Below Wc.heap.size Wc w5) := A4.out.grown hg3 z4 (fun j hj => own_base O2h.out j hj)
            clear ho3 hg3 hn3
            clear O2h A4
            obtain ⟨q, cq, hv⟩ : ∃ q cq, v3 = .slice q M.length cq := by obtain ⟨⟨p, cap, e, -⟩, -⟩ := S5.out; exact ⟨p, cap, e⟩
            have X5 : Hid (BoxAt w5 w.heap.size) := XC.out.below A5.out
            have B5 : Hid (Below w.heap.size w w5) := BC.out.trans (A5.out.mono BC.out.size)
            have K5 := KA.out w5 _ _ S5.out
            clear A5 HOP
            generalize hm : M.length = m at *
            subst hv
            go_wp2_with fail
            refine K5.mono ?_
            rintro e w6 ⟨rfl, hb6⟩
            have S6 : Hid (SliceE w6 Wc.heap.size (.slice q m cq) M) := S5.out.below hb6
            have X6 : Hid (BoxAt w6 w.heap.size) := X5.out.below hb6
            have B6 : Hid (Below w.heap.size w w6) := B5.out.trans (hb6.mono B5.out.size)
            have hwc : w.heap.size < Wc.heap.size := XC.out.lt
            clear hb6 S5 X5 B5 K5
            cases ok with
            | true =>
              obtain ⟨x0, x1, x2, f0, f1, f2, hltx⟩ := X6.out
              go_wp2
              refine bodyPost_ret (v := .agg #[.slice q m cq, .string value, .int .i64 0]) (by simp [results, Tryd.results90, go_sem, x0, x1, x2]) rfl ⟨_, rfl, ⟨_, rfl, (S6.out.store3 hwc).mono (Nat.le_of_lt hwc)⟩, store3_below B6.out⟩
            | false =>
              go_wp2_with fail
              refine (KI.out _ _).mono ?_
              rintro e w7 ⟨rfl, hb7⟩
              have B7 : Hid (Below w.heap.size w w7) := B6.out.trans (hb7.mono B6.out.size)
              obtain ⟨x0, x1, x2, f0, f1, f2, hltx⟩ := X6.out.below hb7
              clear hb7 X6 B6 S6
              go_wp2
              refine bodyPost_ret (v := .agg #[.slice none 0 0, .string ⟨#[]⟩, .int .i64 9]) (by simp [results, Tryd.results90, go_sem, x0, x1, x2]) rfl ⟨_, rfl, ⟨_, rfl, sliceE_none _ _⟩, store3_below B7.out⟩
          · have k3 : ¬ (0 = cap) := fun e => hc0 e.symm
            have O0 : Hid ((Wc.alloc (.cells #[] 108)).ownsRow Wc.heap.size 108 3 (.slice (some ⟨Wc.heap.size, 0, none⟩) 0 0) 0 (enCells [])) := World.ownsRow_made Wc #[] 0 (Nat.le_refl _) (Nat.zero_le _) rfl
            have AA : Hid (Below Wc.heap.size Wc (Wc.alloc (.cells #[] 108))) := (Below.refl _ _).alloc (Nat.le_refl _) _
            have BA : Hid (Below w.heap.size w (Wc.alloc (.cells #[] 108))) := BC.out.trans (AA.out.mono BC.out.size)
            go_wp2_with (at_builtin; go_must (refine wpList_append_own _ rfl _ _ 54 rfl Wc.heap.size 108 i0 (.agg #[.string ⟨#[]⟩, .string ⟨#[]⟩, .string ⟨#[]⟩]) 3 48 Tryd.underlying54 hi hy0 hy1 hy2 rfl (by decide) _ _ _ rfl O0.out _ _ _ [] rfl rfl (by intro j u h; cases h) (by intro v h; cases h)  (by unfold maxLen; omega) (by omega) (by simp) ?_))
            intro v1 w3 ho1 hg1 hn1
            have O1 := ho1
            have A3 : Hid (Below Wc.heap.size Wc w3) := AA.out.grown hg1 (by simp) (fun j hj => own_base O0.out j hj)
            clear ho1 hg1 hn1 O0 AA BA
            have y0 : w3.cell? ⟨w.heap.size + 1, 0, none⟩ = some (.string key) := ((bcell A3.out).1 _ _ hxc).trans xc0
            have y1 : w3.cell? ⟨w.heap.size + 1, 1, none⟩ = some (.string name) := ((bcell A3.out).1 _ _ hxc).trans xc1
            have y2 : w3.cell? ⟨w.heap.size + 1, 2, none⟩ = some (.string value) := ((bcell A3.out).1 _ _ hxc).trans xc2
            have O1h : Hid (World.ownsRow w3 Wc.heap.size 108 3 _ _ _) := O1
            have z3 : Wc.heap.size ≤ w3.heap.size := A3.out.size
            clear O1 xc0 xc1 xc2
            go_wp2_with (at_builtin; go_must (refine wpList_append_own _ rfl _ _ 54 rfl Wc.heap.size 108 i0 (.agg #[.string ⟨#[]⟩, .string ⟨#[]⟩, .string ⟨#[]⟩]) 3 48 Tryd.underlying54 hi hy0 hy1 hy2 rfl (by decide) _ _ _ rfl (O1h.out.alloc _) ⟨w3.heap.size, 0, none⟩ 1 1 (enVals ⟨key, name, value⟩) rfl rfl (cell_En _ ⟨key, name, value⟩ _) (one_En ⟨key, name, value⟩) (by unfold maxLen; omega) (by omega) (by simp; omega) ?_))
            intro v2 w4 ho2 hg2 hn2
            have A4 : Hid (Below Wc.heap.size Wc w4) := (A3.out.alloc z3 _).grown hg2 (by simp; omega) (fun j hj => own_base O1h.out j hj)
            have O2h : Hid (World.ownsRow w4 Wc.heap.size 108 3 v2 _ _) := ho2
            have z4 : Wc.heap.size ≤ w4.heap.size := A4.out.size
            clear ho2 hg2 hn2 O1h A3 y0 y1 y2
            go_wp2_with (at_builtin; go_must (refine wpList_append_own _ rfl _ _ 54 rfl Wc.heap.size 108 i0 (.agg #[.string ⟨#[]⟩, .string ⟨#[]⟩, .string ⟨#[]⟩]) 3 48 Tryd.underlying54 hi hy0 hy1 hy2 rfl (by decide) _ _ _ rfl O2h.out _ _ _ [] rfl rfl (by intro j u h; cases h) (by intro v h; cases h)  (by unfold maxLen; omega) (by omega) z4 ?_))
            intro v3 w5 ho3 hg3 hn3
            have S5 : Hid (SliceE w5 Wc.heap.size v3 M) := HOP.out _ _ (by have h := ho3; have e0 : enCells [] = [] := rfl; simpa [e0] using h)
            have A5 : Hid (Below Wc.heap.size Wc w5) := A4.out.grown hg3 z4 (fun j hj => own_base O2h.out j hj)
            clear ho3 hg3 hn3
            clear O2h A4
            obtain ⟨q, cq, hv⟩ : ∃ q cq, v3 = .slice q M.length cq := by obtain ⟨⟨p, cap, e, -⟩, -⟩ := S5.out; exact ⟨p, cap, e⟩
            have X5 : Hid (BoxAt w5 w.heap.size) := XC.out.below A5.out
            have B5 : Hid (Below w.heap.size w w5) := BC.out.trans (A5.out.mono BC.out.size)
            have K5 := KA.out w5 _ _ S5.out
            clear A5 HOP
            generalize hm : M.length = m at *
            subst hv
            go_wp2_with fail
            refine K5.mono ?_
            rintro e w6 ⟨rfl, hb6⟩
            have S6 : Hid (SliceE w6 Wc.heap.size (.slice q m cq) M) := S5.out.below hb6
            have X6 : Hid (BoxAt w6 w.heap.size) := X5.out.below hb6
            have B6 : Hid (Below w.heap.size w w6) := B5.out.trans (hb6.mono B5.out.size)
            have hwc : w.heap.size < Wc.heap.size := XC.out.lt
            clear hb6 S5 X5 B5 K5
            cases ok with
            | true =>
              obtain ⟨x0, x1, x2, f0, f1, f2, hltx⟩ := X6.out
              go_wp2
              refine bodyPost_ret (v := .agg #[.slice q m cq, .string value, .int .i64 0]) (by simp [results, Tryd.results90, go_sem, x0, x1, x2]) rfl ⟨_, rfl, ⟨_, rfl, (S6.out.store3 hwc).mono (Nat.le_of_lt hwc)⟩, store3_below B6.out⟩
            | false =>
              go_wp2_with fail
              refine (KI.out _ _).mono ?_
              rintro e w7 ⟨rfl, hb7⟩
              have B7 : Hid (Below w.heap.size w w7) := B6.out.trans (hb7.mono B6.out.size)
              obtain ⟨x0, x1, x2, f0, f1, f2, hltx⟩ := X6.out.below hb7
              clear hb7 X6 B6 S6
              go_wp2
              refine bodyPost_ret (v := .agg #[.slice none 0 0, .string ⟨#[]⟩, .int .i64 9]) (by simp [results, Tryd.results90, go_sem, x0, x1, x2]) rfl ⟨_, rfl, ⟨_, rfl, sliceE_none _ _⟩, store3_below B7.out⟩
end Go.Proofs.YtimmoclemcnhnaaDoor

/- The walk of the specification's AreaPut. -/
namespace Go.Proofs.YtimmoclemcnhnaaDoor
open Go.RowKit

set_option maxRecDepth 10000 in
set_option maxHeartbeats 8000000 in
theorem specAreaPut_any (v : Value) (L : List En) (key name value : ByteArray) (B : Nat) (w : World) (hs : SliceE w B v L) (hn : L.length ≤ 1048576) (hz : ∀ i, i < L.length → (atE L i).na.size ≤ 1048576 ∧ (atE L i).va.size ≤ 1048576) (hna : name.size ≤ 1048576) :
    Calls Tryd.prog 35 #[v, .string key, .string name, .string value] w fun e w' => ∃ v', e = .returned v' ∧ AnsE w' w.heap.size v' (putO L key name value) ∧ Below w.heap.size w w' := by
  have KB : Hid (∀ W, Below w.heap.size w W → Calls Tryd.prog 88 #[v, .string key, .string name, .string value] W fun e w' => e = .returned (.int .i64 (beginI L key name value)) ∧ Below W.heap.size W w') := fun W hb => specBegin_any v L key name value B W (hs.below hb) hn hz hna
  have KI : Hid (∀ (c : Int) (W : World), Calls Tryd.prog 89 #[.int .i64 c] W fun e w' => e = .returned (.agg #[.slice none 0 0, .string ⟨#[]⟩, .int .i64 c]) ∧ Below W.heap.size W w') := fun c W => specIll_any c W
  have KP : Hid (beginI L key name value = 0 → ∀ W, Below w.heap.size w W → Calls Tryd.prog 90 #[v, .string key, .string name, .string value] W fun e w' => ∃ v', e = .returned v' ∧ AnsE w' W.heap.size v' (putO L key name value) ∧ Below W.heap.size W w') := fun h W hb => by
    obtain ⟨h1, h2, h3, h4⟩ := beginI_ok h
    have e : putO L key name value = if areaB (putE L ⟨key, name, value⟩) = true then ⟨putE L ⟨key, name, value⟩, value, 0⟩ else illO 9 := by unfold putO; rw [if_pos h]
    rw [e]
    have := keyB_size h2
    have := nameB_size h3
    have := valB_size h4
    exact specPutL_any v L key name value B W (hs.below hb) (area_rise h1) (areaB_parts h1).1 (fun e he => (area_small h1 e he).1) ⟨by show key.size ≤ 200; omega, by show name.size ≤ 200; omega, by show value.size ≤ 200; omega⟩
  have HNo : Hid (beginI L key name value ≠ 0 → putO L key name value = illO (beginI L key name value)) := fun h => by unfold putO; rw [if_neg h]
  have X0 : Hid (BoxAt (w.alloc (.cells #[.slice none 0 0, .string ⟨#[]⟩, .int .i64 0] 56)) w.heap.size) := box_made w _
  have B0 : Hid (Below w.heap.size w (w.alloc (.cells #[.slice none 0 0, .string ⟨#[]⟩, .int .i64 0] 56))) := (Below.refl _ _).alloc (Nat.le_refl _) _
  obtain ⟨⟨p, cap, rfl, -⟩, -⟩ := hs
  clear hz
  generalize beginI L key name value = bi at *
  generalize putO L key name value = Z at *
  go_enter Tryd.func35, Tryd.ntmps35
  go_wp2_with fail
  refine (KB.out _ B0.out).mono ?_
  rintro e w1 ⟨rfl, hb1⟩
  have X1 : Hid (BoxAt w1 w.heap.size) := X0.out.below hb1
  have B1 : Hid (Below w.heap.size w w1) := B0.out.trans (hb1.mono B0.out.size)
  clear hb1 KB X0 B0
  by_cases hbi : bi = 0
  · subst hbi
    have KP1 : Hid (∀ W, Below w.heap.size w W → Calls Tryd.prog 90 #[.slice p L.length cap, .string key, .string name, .string value] W fun e w' => ∃ v', e = .returned v' ∧ AnsE w' W.heap.size v' Z ∧ Below W.heap.size W w') := KP.out rfl
    clear KP HNo
    go_wp2_with fail
    refine (KP1.out _ B1.out).mono ?_
    rintro e w2 ⟨v', rfl, ⟨s, rfl, hs2⟩, hb2⟩
    have S2 : Hid (SliceE w2 w1.heap.size s Z.ar) := hs2
    have B2 : Hid (Below w.heap.size w w2) := B1.out.trans (hb2.mono B1.out.size)
    have z1 := X1.out.lt
    obtain ⟨x0, x1, x2, f0, f1, f2, hlt⟩ := X1.out.below hb2
    obtain ⟨q, cq, hv⟩ : ∃ q cq, s = .slice q Z.ar.length cq := by obtain ⟨⟨p, cap, e, -⟩, -⟩ := hs2; exact ⟨p, cap, e⟩
    clear hs2 hb2 KP1 B1 X1
    generalize hm : Z.ar.length = m at *
    subst hv
    obtain ⟨za, zv, zc⟩ := Z
    dsimp only at *
    go_wp2
    refine bodyPost_ret (v := .agg #[.slice q m cq, .string zv, .int .i64 zc]) (by simp [results, Tryd.results35, go_sem, x0, x1, x2]) rfl ⟨_, rfl, ⟨_, rfl, (S2.out.store3 z1).mono (Nat.le_of_lt z1)⟩, store3_below B2.out⟩
  · have HZ : Hid (Z = illO bi) := HNo.out hbi
    have qn : (bi != 0) = true := by rw [bne_iff_ne]; exact hbi
    clear hbi HNo KP
    go_wp2_with fail
    refine (KI.out _ _).mono ?_
    rintro e w2 ⟨rfl, hb2⟩
    have B2 : Hid (Below w.heap.size w w2) := B1.out.trans (hb2.mono B1.out.size)
    obtain ⟨x0, x1, x2, f0, f1, f2, hlt⟩ := X1.out.below hb2
    clear hb2 KI B1 X1
    go_wp2
    refine bodyPost_ret (v := .agg #[.slice none 0 0, .string ⟨#[]⟩, .int .i64 bi]) (by simp [results, Tryd.results35, go_sem, x0, x1, x2]) rfl ⟨_, rfl, ⟨_, by rw [HZ.out]; rfl, by rw [HZ.out]; exact sliceE_none _ _⟩, store3_below B2.out⟩
end Go.Proofs.YtimmoclemcnhnaaDoor
