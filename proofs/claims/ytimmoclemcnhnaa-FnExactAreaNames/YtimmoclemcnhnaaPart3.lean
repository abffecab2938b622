/- 7 of this claim's texts, one behind the other. -/
import Derived.Test.YtimmoclemcnhnaaPart1
import Derived.Maps.Own
import Derived.Maps.OwnOps
import Derived.Maps.OwnSet
import Derived.Maps.Views
import Derived.Maps.RangeWalk
import Derived.DeepKeys4
import Derived.Laws.AppendOwn
import Derived.Test.YtimmoclemcnhnaaPart2
import Derived.Lib.Split
/- The book of entries: a map from places to entries, told by the list of its entries; what is risen by place and has the same members is the same list. -/
namespace Go.Proofs.Ytimmoclemcnhnaa
open Go.RowKit Go.Maps

/-- how an entry in the map reads -/
def enElem (v : Value) : Option (DataW En × List MemPlace) :=
  match v with
  | .agg cs => (match cs.toList with
    | [.string a, .string b, .string c] => some (.held ⟨a, b, c⟩, [])
    | _ => none)
  | _ => none
theorem enElem_mk (e : En) : enElem (enV e) = some (.held e, []) := rfl
theorem enElem_inv {v : Value} {y : DataW En × List MemPlace} (h : enElem v = some y) : ∃ e : En, v = enV e ∧ y = (.held e, []) := by
  cases v
  case agg cs =>
    unfold enElem at h
    simp only at h
    split at h
    · rename_i a b c e
      refine ⟨⟨a, b, c⟩, ?_, (Option.some.inj h).symm⟩
      exact congrArg Value.agg (Array.toList_inj.1 e)
    · cases h
  all_goals (unfold enElem at h; cases h)
/-- what a place reads as -/
def plK (k n : ByteArray) : Lit := .string (keyBytes [.string k.data.toList, .string n.data.toList])
def keyE (e : En) : Lit := plK e.ke e.na
theorem placeRow : (63 : TypeId) < Try.prog.types.size := of_decide_eq_true (by kernel_rfl)
theorem placeWide : (match Try.prog.underlying 63 with | some (.array _ _) | some (.struct _) => true | _ => false) = true := by kernel_rfl
theorem laidOutR : laidOutB Try.prog = true := by kernel_rfl
set_option maxRecDepth 10000 in
theorem placeKeyed : Keyed Try.prog 63 := Keyed.of_law (deep_law_laid laidOutR (m := 2) (by omega) placeRow (by kernel_rfl) placeWide)
theorem typesR : Try.prog.types.size + 1 = (110 - 1) + 2 := by kernel_rfl
theorem placeKeyT : Try.prog.keyType 63 = true := by kernel_rfl
theorem placeCells : Try.prog.cellsOf 63 = 2 := by kernel_rfl
theorem strCellsR : Try.prog.cellsOf 9 = 1 := by kernel_rfl
set_option maxRecDepth 10000 in
theorem keyLits_place (d : Nat) (k n : ByteArray) (hk : k.size ≤ maxLen) (hn : n.size ≤ maxLen) : Try.prog.keyLits (d + 2) 63 [.string k, .string n] = some [.string k.data.toList, .string n.data.toList] := by
  simp [Program.keyLits, Try.underlying63, Try.underlying9, placeCells, strCellsR, hk, hn]
set_option maxRecDepth 10000 in
theorem keyOf_place {k n : ByteArray} (hk : k.size ≤ maxLen) (hn : n.size ≤ maxLen) : keyOf Try.prog 63 (.agg #[.string k, .string n]) = some (plK k n) := by
  unfold keyOf
  rw [Try.underlying63]
  simp only
  rw [placeKeyT, typesR]
  have hf : (Value.agg #[.string k, .string n]).formed Try.prog 63 = true := by simp [Value.formed, Try.underlying63, placeCells]
  rw [hf]
  show (if (true && true) = true then (Try.prog.keyLits ((110 - 1) + 2) 63 [.string k, .string n]).map fun ls => Lit.string (keyBytes ls) else none) = _
  rw [keyLits_place _ k n hk hn]; rfl
set_option maxRecDepth 10000 in
theorem keyLits_str (d : Nat) (c : Value) : (∃ a, c = .string a) ∨ Try.prog.keyLits (d + 1) 9 [c] = none := by
  cases c
  case string s => exact .inl ⟨s, rfl⟩
  all_goals (right; simp [Program.keyLits, Try.underlying9])
set_option maxRecDepth 10000 in
theorem keyLits_inv (d : Nat) (c0 c1 : Value) (ls : List Lit) (h : Try.prog.keyLits (d + 2) 63 [c0, c1] = some ls) : ∃ a b, c0 = .string a ∧ c1 = .string b := by
  unfold Program.keyLits at h
  simp [Try.underlying63, placeCells, strCellsR] at h
  rcases keyLits_str d c0 with ⟨a, rfl⟩ | e
  · rcases keyLits_str d c1 with ⟨b, rfl⟩ | e
    · exact ⟨a, b, rfl, rfl⟩
    · rw [e] at h
      cases hx : Try.prog.keyLits (d + 1) 9 [Value.string a] with
      | none => rw [hx] at h; cases h
      | some y => rw [hx] at h; cases h
  · rw [e] at h; cases h
set_option maxRecDepth 10000 in
theorem keyOf_place_inv {v : Value} {kl : Lit} (h : keyOf Try.prog 63 v = some kl) : ∃ x : ByteArray × ByteArray, v = .agg #[.string x.1, .string x.2] := by
  unfold keyOf at h
  rw [Try.underlying63] at h
  simp only at h
  rw [placeKeyT, typesR] at h
  by_cases hf : v.formed Try.prog 63 = true
  · rw [hf] at h
    cases v <;> simp [Value.formed, Try.underlying63, placeCells] at hf
    rename_i cs
    obtain ⟨l⟩ := cs
    simp at hf
    match l, hf with
    | [c0, c1], _ =>
      cases hl : Try.prog.keyLits ((110 - 1) + 2) 63 [c0, c1] with
      | none =>
        have h' : (if (true && true) = true then (Try.prog.keyLits ((110 - 1) + 2) 63 [c0, c1]).map fun ls => Lit.string (keyBytes ls) else none) = some kl := h
        rw [hl] at h'; cases h'
      | some ls =>
        obtain ⟨a, b, rfl, rfl⟩ := keyLits_inv _ _ _ _ hl
        exact ⟨(_, _), rfl⟩
  · rw [Bool.not_eq_true] at hf
    rw [hf] at h; simp at h
/-- texts that can be handed on -/
def smallE (e : En) : Prop := e.ke.size ≤ 200 ∧ e.na.size ≤ 200 ∧ e.va.size ≤ 200
theorem keyOf_E {e : En} (h : smallE e) : keyOf Try.prog 63 (.agg #[.string e.ke, .string e.na]) = some (keyE e) := keyOf_place (by have := h.1; unfold maxLen; omega) (by have := h.2.1; unfold maxLen; omega)
theorem keyE_inj {a b : En} (ha : smallE a) (hb : smallE b) (h : keyE a = keyE b) : a.ke = b.ke ∧ a.na = b.na := by
  have e := placeKeyed.inj (keyOf_E ha) (by rw [h]; exact keyOf_E hb)
  injection e with e
  injection e with e
  injection e with e1 e2
  injection e2 with e2
  injection e1 with e1
  injection e2 with e2
  exact ⟨e1, e2⟩
theorem keyE_lit (e : En) : WideAt.IsKeyLit (keyE e) := by unfold keyE plK; trivial
theorem keyE_same {a b : Lit} (h : a.sameKey b = true) : a = b := WideAt.sameKey_eq h
/-- block bm is a map of at most N entries, which are just those of the list -/
def BookL (w : World) (bm N : Nat) (L : List En) : Prop :=
  ∃ D : DataW En, w.ownsMap Try.prog 63 enElem bm N D ∧ (∀ e, e ∈ L → smallE e ∧ Maps.has D (keyE e) = true ∧ ∀ zd, D.atKey (keyE e) zd = .held e) ∧ ∀ kl, Maps.has D kl = true → ∃ e, e ∈ L ∧ keyE e = kl
theorem BookL.kept {w w' : World} {bm N : Nat} {L : List En} {row : Option Nat} (h : BookL w bm N L) (hg : w.grownBy w' row) (hne : some bm ≠ row) : BookL w' bm N L := by
  obtain ⟨D, h1, h2⟩ := h
  exact ⟨D, h1.kept hg hne, h2⟩
theorem BookL.below {w w' : World} {bm N : Nat} {L : List En} (h : BookL w bm N L) (hb : Below w.heap.size w w') : BookL w' bm N L := by
  obtain ⟨D, ⟨es, clock, h0, h1⟩, h2⟩ := h
  have hlt : bm < w.heap.size := (Array.getElem?_eq_some_iff.1 h0).1
  exact ⟨D, ⟨es, clock, by rw [hb.block bm hlt]; exact h0, h1⟩, h2⟩
theorem BookL.lt {w : World} {bm N : Nat} {L : List En} (h : BookL w bm N L) : bm < w.heap.size := by
  obtain ⟨D, h1, _⟩ := h; exact h1.lt
theorem BookL.mono {w : World} {bm N N' : Nat} {L : List En} (h : BookL w bm N L) (hN : N ≤ N') : BookL w bm N' L := by
  obtain ⟨D, h1, h2⟩ := h; exact ⟨D, h1.mono hN, h2⟩
theorem BookL.ne {w : World} {bm N b o : Nat} {v : Value} {L : List En} (h : BookL w bm N L) (hc : w.cell? ⟨b, o, none⟩ = some v) : b ≠ bm := by
  rintro rfl
  obtain ⟨D, ⟨es, clock, h0, _⟩, _⟩ := h
  simp [World.cell?, h0] at hc
theorem BookL.small {w : World} {bm N : Nat} {L : List En} (h : BookL w bm N L) : ∀ e, e ∈ L → smallE e := by
  obtain ⟨D, _, h2, _⟩ := h
  exact fun e he => (h2 e he).1
/-- two of one place are one -/
theorem BookL.one {w : World} {bm N : Nat} {L : List En} (h : BookL w bm N L) : ∀ a b, a ∈ L → b ∈ L → keyE a = keyE b → a = b := by
  obtain ⟨D, _, h2, _⟩ := h
  intro a b ha hb e
  have e1 := (h2 a ha).2.2 .nil
  have e2 := (h2 b hb).2.2 .nil
  rw [e, e2] at e1
  injection e1 with e1
  exact e1.symm
theorem book_made (w : World) : BookL (w.alloc (.map #[] 0)) w.heap.size 0 [] :=
  ⟨.map [], World.ownsMap_made w _ _ _, fun _ h => absurd h (by simp), fun kl h => by simp [Maps.has] at h⟩
theorem book_put {w' : World} {bm N : Nat} {L L' : List En} {D : DataW En} {e : En} (hD : IsMap D) (he : smallE e)
    (h2 : (∀ e, e ∈ L → smallE e ∧ Maps.has D (keyE e) = true ∧ ∀ zd, D.atKey (keyE e) zd = .held e) ∧ ∀ kl, Maps.has D kl = true → ∃ e, e ∈ L ∧ keyE e = kl)
    (h1 : w'.ownsMap Try.prog 63 enElem bm N (D.put (keyE e) (.held e))) (hL : ∀ x, x ∈ L' ↔ x = e ∨ (x ∈ L ∧ keyE x ≠ keyE e)) : BookL w' bm N L' := by
  refine ⟨_, h1, fun x hx => ?_, fun kl hk => ?_⟩
  · rcases (hL x).1 hx with rfl | ⟨hx, hne⟩
    · exact ⟨he, has_put_same hD (keyE_lit _) _, fun zd => atKey_put_same hD (keyE_lit _) _ _⟩
    · obtain ⟨s, a, b⟩ := h2.1 x hx
      exact ⟨s, by rw [has_put_other hne]; exact a, fun zd => by rw [atKey_put_other hne]; exact b zd⟩
  · by_cases e1 : kl = keyE e
    · exact ⟨e, (hL e).2 (.inl rfl), e1.symm⟩
    · rw [has_put_other e1] at hk
      obtain ⟨x, hx, rfl⟩ := h2.2 kl hk
      exact ⟨x, (hL x).2 (.inr ⟨hx, e1⟩), rfl⟩
theorem book_del {w' : World} {bm N : Nat} {L L' : List En} {D : DataW En} {e : En}
    (h2 : (∀ e, e ∈ L → smallE e ∧ Maps.has D (keyE e) = true ∧ ∀ zd, D.atKey (keyE e) zd = .held e) ∧ ∀ kl, Maps.has D kl = true → ∃ e, e ∈ L ∧ keyE e = kl)
    (h1 : w'.ownsMap Try.prog 63 enElem bm N (D.del (keyE e))) (hL : ∀ x, x ∈ L' ↔ x ∈ L ∧ keyE x ≠ keyE e) : BookL w' bm N L' := by
  refine ⟨_, h1, fun x hx => ?_, fun kl hk => ?_⟩
  · obtain ⟨hx, hne⟩ := (hL x).1 hx
    obtain ⟨s, a, b⟩ := h2.1 x hx
    exact ⟨s, by rw [has_del_other hne]; exact a, fun zd => by rw [atKey_del_other hne]; exact b zd⟩
  · by_cases e1 : kl = keyE e
    · subst e1; rw [has_del_same] at hk; cases hk
    · rw [has_del_other e1] at hk
      obtain ⟨x, hx, rfl⟩ := h2.2 kl hk
      exact ⟨x, (hL x).2 ⟨hx, e1⟩, rfl⟩
/-- rising by place, none twice -/
def RiseE (L : List En) : Prop := L.Pairwise (fun a b => enLess a b = true)
theorem enLess_iff (a b : En) : enLess a b = true ↔ a.ke.data.toList < b.ke.data.toList ∨ (a.ke.data.toList = b.ke.data.toList ∧ a.na.data.toList < b.na.data.toList) := by
  unfold enLess
  simp only [Lib.toList_data, Bool.or_eq_true, Bool.and_eq_true, less_iff, beq_iff_eq]
theorem enLess_irrefl (a : En) : enLess a a = false := by
  rw [Bool.eq_false_iff]
  intro h
  rcases (enLess_iff a a).1 h with h | h
  · exact List.lt_irrefl _ h
  · exact List.lt_irrefl _ h.2
theorem enLess_trans {a b c : En} (h1 : enLess a b = true) (h2 : enLess b c = true) : enLess a c = true := by
  rw [enLess_iff] at *
  rcases h1 with h1 | ⟨h1, h1'⟩ <;> rcases h2 with h2 | ⟨h2, h2'⟩
  · exact .inl (List.lt_trans h1 h2)
  · exact .inl (h2 ▸ h1)
  · exact .inl (h1 ▸ h2)
  · exact .inr ⟨h1.trans h2, List.lt_trans h1' h2'⟩
theorem enLess_asymm {a b : En} (h : enLess a b = true) : enLess b a = false := by
  rw [Bool.eq_false_iff]
  intro h2
  have := enLess_trans h h2
  rw [enLess_irrefl] at this; cases this
/-- neither ahead of the other: of one place -/
theorem enLess_same {a b : En} (h1 : enLess a b = false) (h2 : enLess b a = false) : a.ke.data.toList = b.ke.data.toList ∧ a.na.data.toList = b.na.data.toList := by
  rw [Bool.eq_false_iff, ne_eq, enLess_iff] at h1 h2
  rcases lt_tri a.ke.data.toList b.ke.data.toList with h | h | h
  · exact absurd (.inl h) h1
  · refine ⟨h, ?_⟩
    rcases lt_tri a.na.data.toList b.na.data.toList with h' | h' | h'
    · exact absurd (.inr ⟨h, h'⟩) h1
    · exact h'
    · exact absurd (.inr ⟨h.symm, h'⟩) h2
  · exact absurd (.inl h) h2
theorem keyE_of {a b : En} (h : a.ke.data.toList = b.ke.data.toList ∧ a.na.data.toList = b.na.data.toList) : keyE a = keyE b := by unfold keyE plK; rw [h.1, h.2]
theorem less_ne {a b : En} (ha : smallE a) (hb : smallE b) (h : enLess a b = true) : keyE a ≠ keyE b := by
  intro e
  obtain ⟨e1, e2⟩ := keyE_inj ha hb e
  rw [enLess_iff, e1, e2] at h
  rcases h with h | h
  · exact List.lt_irrefl _ h
  · exact List.lt_irrefl _ h.2
theorem rise_eq : ∀ {A B : List En}, RiseE A → RiseE B → (∀ x, x ∈ A ↔ x ∈ B) → A = B
  | [], [], _, _, _ => rfl
  | [], b :: B, _, _, h => absurd ((h b).2 (by simp)) (by simp)
  | a :: A, [], _, _, h => absurd ((h a).1 (by simp)) (by simp)
  | a :: A, b :: B, ha, hb, h => by
    obtain ⟨ha1, ha2⟩ := List.pairwise_cons.1 ha
    obtain ⟨hb1, hb2⟩ := List.pairwise_cons.1 hb
    have e : a = b := by
      rcases List.mem_cons.1 ((h a).1 (by simp)) with e | e
      · exact e
      · rcases List.mem_cons.1 ((h b).2 (by simp)) with e2 | e2
        · exact e2.symm
        · have h1 := hb1 a e
          have h2 := ha1 b e2
          rw [enLess_asymm h1] at h2; cases h2
    subst e
    congr 1
    refine rise_eq ha2 hb2 fun x => ?_
    have hx := h x
    rw [List.mem_cons, List.mem_cons] at hx
    constructor
    · intro hm
      rcases hx.1 (.inr hm) with e | e
      · subst e; have := ha1 x hm; rw [enLess_irrefl] at this; cases this
      · exact e
    · intro hm
      rcases hx.2 (.inr hm) with e | e
      · subst e; have := hb1 x hm; rw [enLess_irrefl] at this; cases this
      · exact e
theorem atE_get {L : List En} {i : Nat} (h : i < L.length) : atE L i = L[i] := by simp [atE, h]
/-- what is right rises -/
theorem area_rise {L : List En} (h : areaB L = true) : RiseE L := by
  have hp := (areaB_parts h).2
  have step : ∀ i, i + 1 < L.length → enLess (atE L i) (atE L (i + 1)) = true := fun i hi => by
    have := (hp (i + 1) hi).2.1
    unfold riseB at this
    rw [Nat.add_sub_cancel, decide_eq_false (by omega), Bool.false_or] at this
    exact this
  have far : ∀ d i, i + d + 1 < L.length → enLess (atE L i) (atE L (i + d + 1)) = true := by
    intro d
    induction d with
    | zero => intro i hi; exact step i hi
    | succ d ih => intro i hi; exact enLess_trans (ih i (by omega)) (step (i + d + 1) hi)
  rw [RiseE, List.pairwise_iff_getElem]
  intro i j hi hj hij
  have := far (j - i - 1) i (by omega)
  rw [show i + (j - i - 1) + 1 = j by omega, atE_get hi, atE_get hj] at this
  exact this
theorem area_small {L : List En} (h : areaB L = true) : ∀ e, e ∈ L → smallE e ∧ e.ke.size ≤ 200 ∧ e.na.size ≤ 20 ∧ e.va.size ≤ 40 := by
  intro e he
  obtain ⟨i, hi, rfl⟩ := List.mem_iff_getElem.1 he
  have := enB_parts ((areaB_parts h).2 i hi).1
  rw [atE_get hi] at this
  exact ⟨⟨by omega, by omega, by omega⟩, by omega, by omega, by omega⟩
end Go.Proofs.Ytimmoclemcnhnaa

/- Rooms as plain functions: those of one key, all others, the bytes and the names of one. -/
namespace Go.Proofs.Ytimmoclemcnhnaa
open Go.RowKit Go.Maps

def isKey (key : ByteArray) (e : En) : Bool := e.ke.toList == key.toList
def roomL (L : List En) (key : ByteArray) : List En := L.filter (isKey key)
def otherL (L : List En) (key : ByteArray) : List En := L.filter (fun e => !isKey key e)
def clearedL (L : List En) (key : ByteArray) : List En := if (areaB L && keyB key) = true then otherL L key else []
def usedI (L : List En) (key : ByteArray) : Nat := if (areaB L && keyB key) = true then usedN L key else 0
def namesL (L : List En) (key : ByteArray) : List ByteArray := if (areaB L && keyB key) = true then (roomL L key).map En.na else []
/-- those of the first k that stay -/
def stayE (p : En → Bool) (L : List En) (k : Nat) : List En := (L.take k).filter p
theorem stayE_yes {p : En → Bool} {L : List En} {k : Nat} (hk : k < L.length) (h : p (atE L k) = true) : stayE p L (k + 1) = stayE p L k ++ [atE L k] := by
  rw [atE_get hk] at *
  unfold stayE
  rw [← List.take_append_getElem hk, List.filter_append, List.filter_cons_of_pos h, List.filter_nil]
theorem stayE_no {p : En → Bool} {L : List En} {k : Nat} (hk : k < L.length) (h : p (atE L k) = false) : stayE p L (k + 1) = stayE p L k := by
  rw [atE_get hk] at *
  unfold stayE
  rw [← List.take_append_getElem hk, List.filter_append, List.filter_cons_of_neg (by rw [h]; simp), List.filter_nil, List.append_nil]
theorem stayE_all (p : En → Bool) (L : List En) : stayE p L L.length = L.filter p := by unfold stayE; rw [List.take_length]
theorem stayE_zero (p : En → Bool) (L : List En) : stayE p L 0 = [] := by unfold stayE; rw [List.take_zero]; rfl
theorem stayE_len (p : En → Bool) (L : List En) (k : Nat) : (stayE p L k).length ≤ L.length := Nat.le_trans (List.length_filter_le _ _) (by rw [List.length_take]; omega)
/-- the bytes of the first k -/
def sumTo (L : List En) : Nat → Nat
  | 0 => 0
  | k + 1 => sumTo L k + enN (atE L k)
theorem sumTo_app (L : List En) (e : En) : ∀ k, k ≤ L.length → sumTo (L ++ [e]) k = sumTo L k
  | 0, _ => rfl
  | k + 1, h => by
    rw [sumTo, sumTo, sumTo_app L e k (by omega), atE_get (by omega : k < L.length), atE_get (by rw [List.length_append]; simp; omega : k < (L ++ [e]).length), List.getElem_append_left]
theorem sumTo_snoc (L : List En) (e : En) : sumTo (L ++ [e]) (L ++ [e]).length = sumTo L L.length + enN e := by
  rw [List.length_append]
  show sumTo _ (L.length + 1) = _
  rw [sumTo, sumTo_app L e _ (Nat.le_refl _), atE_get (by rw [List.length_append]; simp)]
  simp
theorem used_stay (L : List En) (key : ByteArray) : ∀ k, k ≤ L.length → usedTo L key k = sumTo (stayE (isKey key) L k) (stayE (isKey key) L k).length
  | 0, _ => by rw [stayE_zero]; rfl
  | k + 1, h => by
    rw [usedTo, used_stay L key k (by omega)]
    cases hq : ((atE L k).ke.toList == key.toList) with
    | true => rw [if_pos rfl, stayE_yes (by omega) hq, sumTo_snoc]
    | false => rw [if_neg (by decide), stayE_no (by omega) hq, Nat.add_zero]
theorem used_room (L : List En) (key : ByteArray) : usedN L key = sumTo (roomL L key) (roomL L key).length := by
  unfold usedN roomL
  rw [used_stay L key _ (Nat.le_refl _), stayE_all]
theorem rise_filter {L : List En} (h : RiseE L) (p : En → Bool) : RiseE (L.filter p) := h.sublist List.filter_sublist
/-- what is left when all of a room are dropped -/
theorem others_of {L M : List En} {key : ByteArray} (hs : ∀ e, e ∈ L → smallE e) (h : ∀ x, x ∈ M ↔ x ∈ L ∧ ∀ j, j < (roomL L key).length → keyE x ≠ keyE (atE (roomL L key) j)) : ∀ x, x ∈ otherL L key ↔ x ∈ M := by
  intro x
  rw [h x]
  unfold otherL
  rw [List.mem_filter]
  constructor
  · rintro ⟨hx, hk⟩
    refine ⟨hx, fun j hj e => ?_⟩
    have hm : (roomL L key)[j] ∈ roomL L key := List.getElem_mem hj
    rw [atE_get hj] at e
    generalize (roomL L key)[j] = y at *
    unfold roomL at hm
    obtain ⟨hy, hyk⟩ := List.mem_filter.1 hm
    have := keyE_inj (hs x hx) (hs y hy) e
    unfold isKey at hk hyk
    rw [this.1] at hk
    rw [hyk] at hk; cases hk
  · rintro ⟨hx, hk⟩
    refine ⟨hx, ?_⟩
    cases hq : isKey key x with
    | false => rfl
    | true =>
      exfalso
      have hm : x ∈ roomL L key := List.mem_filter.2 ⟨hx, hq⟩
      obtain ⟨j, hj, e⟩ := List.mem_iff_getElem.1 hm
      exact hk j hj (by rw [atE_get hj, e])
theorem isKey_data (key : ByteArray) (e : En) : isKey key e = (e.ke.toList == key.toList) := rfl
end Go.Proofs.Ytimmoclemcnhnaa

/- Where an owned row lies. -/
namespace Go.Proofs.Ytimmoclemcnhnaa
open Go.RowKit
theorem own_base {w : World} {B n sz : Nat} {e : TypeId} {v : Value} {xs : List Value} (h : w.ownsRow B e sz v n xs) : ∀ j, v.ownBlock = some j → B ≤ j := by
  intro j hj
  obtain ⟨_, ⟨rfl, _⟩ | ⟨g, cap, cur, rfl, hB, _⟩⟩ := h
  · cases hj
  · have : g = j := Option.some.inj hj
    omega
end Go.Proofs.Ytimmoclemcnhnaa

/- Rows of entrys that a call owns. Written by rowsown.py. -/
namespace Go.Proofs.Ytimmoclemcnhnaa
open Go.RowKit

/-- the cells of one -/
def enVals (c : En) : List Value := [.string c.ke, .string c.na, .string c.va]
def enCells : List En → List Value
  | [] => []
  | c :: L => enVals c ++ enCells L
theorem enCells_snoc (L : List En) (c : En) : enCells L ++ enVals c = enCells (L ++ [c]) := by
  induction L with
  | nil => simp [enCells]
  | cons q L ih => simp only [enCells, List.cons_append, List.append_assoc, ih]
theorem enCells_len (L : List En) : (enCells L).length = L.length * 3 := by
  induction L with
  | nil => rfl
  | cons q L ih => simp only [enCells, List.length_append, ih, List.length_cons]; show 3 + _ = _; omega
theorem enVals_at (c : En) : ∀ o, o < 3 → (enVals c)[o]? = some (enC c o)
  | 0, _ => rfl
  | 1, _ => rfl
  | 2, _ => rfl
theorem enCells_at : ∀ (L : List En) (j : Nat), j < L.length → ∀ o, o < 3 → (enCells L)[j * 3 + o]? = some (enR L j o)
  | [], j, h, _, _ => by simp at h
  | c :: L, 0, _, o, ho => by
    rw [Nat.zero_mul, Nat.zero_add, enCells, List.getElem?_append_left (by show o < 3; exact ho), enVals_at c o ho]
    rfl
  | c :: L, j + 1, h, o, ho => by
    have ih := enCells_at L j (by simpa using h) o ho
    have hl : (enVals c).length = 3 := rfl
    rw [enCells, List.getElem?_append_right (by rw [hl]; omega), hl, show (j + 1) * 3 + o - 3 = j * 3 + o by omega, ih]
    simp [enR, atE]
theorem sliceE_of_own {w : World} {B : Nat} {t : TypeId} {v : Value} {L : List En} (h : w.ownsRow B t 3 v L.length (enCells L)) : SliceE w B v L := by
  refine ⟨sliceR_of_own h (enCells_at L), ?_⟩
  obtain ⟨_, ⟨rfl, h0⟩ | ⟨g, cap, cur, rfl, _, _, hc, _⟩⟩ := h
  · exact ⟨none, 0, by rw [h0], by omega⟩
  · exact ⟨_, cap, rfl, hc⟩
theorem sliceE_none (w : World) (B : Nat) : SliceE w B (.slice none 0 0) [] := ⟨sliceR_none _ _ _ _ _ _, none, 0, rfl, Nat.le_refl _⟩
theorem cell_En (w : World) (c : En) (t : TypeId) : ∀ j u, (enVals c)[j]? = some u → (w.alloc (.cells #[.string c.ke, .string c.na, .string c.va] t)).cell? ((⟨w.heap.size, 0, none⟩ : Addr).add j) = some u := by
  intro j u h
  have e : (⟨w.heap.size, 0, none⟩ : Addr).add j = ⟨w.heap.size, j, none⟩ := by unfold Addr.add; split <;> simp_all
  rw [e, World.cell?_alloc_new, ← Array.getElem?_toList]
  exact h
theorem one_En (c : En) : ∀ v ∈ enVals c, v.oneCell' = true := by
  intro u hu
  simp only [enVals, List.mem_cons, List.not_mem_nil, or_false] at hu
  rcases hu with rfl | rfl | rfl <;> rfl
/-- a row of them, kept while other blocks are written -/
theorem ownE_keep {w w' : World} {B n sz : Nat} {row : Option Nat} {e : TypeId} {v : Value} {xs : List Value} (h : w.ownsRow B e sz v n xs) (hg : w.grownBy w' row) (hne : ∀ g, v.ownBlock = some g → row ≠ some g) : w'.ownsRow B e sz v n xs := by
  obtain ⟨hl, h0 | ⟨g, cap, cur, rfl, hbg, hh, r⟩⟩ := h
  · exact ⟨hl, .inl h0⟩
  · have hgl : g < w.heap.size := (Array.getElem?_eq_some_iff.mp hh).1
    exact ⟨hl, .inr ⟨g, cap, cur, rfl, hbg, by rw [hg.block g hgl (fun e => hne g rfl e.symm)]; exact hh, r⟩⟩
end Go.Proofs.Ytimmoclemcnhnaa

/- The walks of the specification's l07Fine, l07Clear, AreaClear, AreaUsed. -/
namespace Go.Proofs.Ytimmoclemcnhnaa
open Go.RowKit

theorem keyB_long {t : ByteArray} (h : 200 < t.size) : keyB t = false := by unfold keyB; rw [decide_eq_false (show ¬ t.size ≤ 200 by omega), Bool.and_false]
set_option maxRecDepth 10000 in
set_option maxHeartbeats 4000000 in
theorem specFine_any (v : Value) (L : List En) (key : ByteArray) (B : Nat) (w : World) (hs : SliceE w B v L) (hn : L.length ≤ 1048576) (hz : ∀ i, i < L.length → (atE L i).na.size ≤ 1048576 ∧ (atE L i).va.size ≤ 1048576) :
    Calls Try.prog 33 #[v, .string key] w fun e w' => e = .returned (.bool (areaB L && keyB key)) ∧ Below w.heap.size w w' := by
  have KA : Hid (∀ W, Below w.heap.size w W → Calls Try.prog 8 #[v] W fun e w' => e = .returned (.bool (areaB L)) ∧ Below W.heap.size W w') := fun W hb => specArea_any v L B W (hs.below hb) hn hz
  have KK : Hid (∀ W, Calls Try.prog 24 #[.string key] W fun e w' => e = .returned (.bool (keyB key)) ∧ w' = W) := fun W => specKey_any key W
  have HL1 : Hid (400 < L.length → areaB L = false) := fun h => areaB_long (by omega)
  have HK1 : Hid (8000 < key.size → keyB key = false) := fun h => keyB_long (by omega)
  obtain ⟨⟨p, cap, rfl, -⟩, -⟩ := hs
  clear hz
  generalize areaB L = ba at *
  generalize keyB key = bk at *
  by_cases h1 : L.length ≤ 400
  · have q1 : decide ((L.length : Int) ≤ (400 : Int)) = true := by rw [decide_eq_true_iff]; omega
    by_cases h2 : key.size ≤ 8000
    · have q2 : decide ((key.size : Int) ≤ (8000 : Int)) = true := by rw [decide_eq_true_iff]; omega
      go_enter Try.func33, Try.ntmps33
      go_wp2_with fail
      refine (KA.out _ (Below.refl _ _)).mono ?_
      rintro e w1 ⟨rfl, hb1⟩
      cases ba with
      | false =>
        go_wp2
        go_ret
        exact ⟨rfl, hb1⟩
      | true =>
        go_wp2_with fail
        refine (KK.out _).mono ?_
        rintro e w2 ⟨rfl, rfl⟩
        go_wp2
        go_ret
        exact ⟨ret_bool (Bool.true_and _).symm, hb1⟩
    · have q2 : decide ((key.size : Int) ≤ (8000 : Int)) = false := by rw [decide_eq_false_iff_not]; omega
      have HB : Hid (bk = false) := HK1.out (by omega)
      go_enter Try.func33, Try.ntmps33
      go_wp2
      go_ret
      exact ⟨ret_bool (by rw [HB.out, Bool.and_false]), Below.refl _ _⟩
  · have q1 : decide ((L.length : Int) ≤ (400 : Int)) = false := by rw [decide_eq_false_iff_not]; omega
    have HB : Hid (ba = false) := HL1.out (by omega)
    go_enter Try.func33, Try.ntmps33
    go_wp2
    go_ret
    exact ⟨ret_bool (by rw [HB.out]; rfl), Below.refl _ _⟩
set_option maxRecDepth 10000 in
set_option maxHeartbeats 4000000 in
theorem specClear_any (v : Value) (L : List En) (key : ByteArray) (B : Nat) (w : World) (hs : SliceE w B v L) (hn : L.length ≤ 16) :
    Calls Try.prog 34 #[v, .string key] w fun e w' => ∃ v', e = .returned v' ∧ SliceE w' w.heap.size v' (otherL L key) ∧ Below w.heap.size w w' := by
  obtain ⟨i0, hi, hy0, hy1, hy2⟩ := info_parts infoEntry
  obtain ⟨⟨p, cap, rfl, hg⟩, -⟩ := hs
  have HG : Hid (0 < L.length → ∃ g, p = some ⟨g, 0, none⟩ ∧ g < w.heap.size ∧ ∀ j, j < L.length → ∀ o, o < 3 → w.cell? ⟨g, j * 3 + o, none⟩ = some (enC (atE L j) o)) := fun h0 => by
    obtain ⟨g, e, -, hgw, hc⟩ := hg h0
    exact ⟨g, e, hgw, fun j hj o ho => (hc j hj o ho).1⟩
  have HZ : Hid (otherL L key = stayE (fun e => !isKey key e) L L.length) := (stayE_all _ L).symm
  have HLen : Hid (∀ k, (stayE (fun e => !isKey key e) L k).length ≤ L.length) := fun k => stayE_len _ L k
  have HSY : Hid (∀ k, k < L.length → ((atE L k).ke.toList == key.toList) = false → ∀ (v : Value) (B : Nat) (w' : World), w'.ownsRow B 41 3 v ((stayE (fun e => !isKey key e) L k).length + 1) (enCells (stayE (fun e => !isKey key e) L k) ++ enVals (atE L k)) → w'.ownsRow B 41 3 v (stayE (fun e => !isKey key e) L (k + 1)).length (enCells (stayE (fun e => !isKey key e) L (k + 1)))) := fun k hlt a v B w' h => by
    rw [stayE_yes hlt (by show (!isKey key (atE L k)) = true; unfold isKey; rw [a]; rfl), ← enCells_snoc, List.length_append]; exact h
  have HSN : Hid (∀ k, k < L.length → ((atE L k).ke.toList == key.toList) = true → stayE (fun e => !isKey key e) L (k + 1) = stayE (fun e => !isKey key e) L k) := fun k hlt a => stayE_no hlt (by show (!isKey key (atE L k)) = false; unfold isKey; rw [a]; rfl)
  have HS0 : Hid (stayE (fun e => !isKey key e) L 0 = []) := stayE_zero _ L
  have O0 : Hid ((w.alloc (.cells #[] 41)).ownsRow w.heap.size 41 3 (.slice (some ⟨w.heap.size, 0, none⟩) 0 0) 0 (enCells [])) := World.ownsRow_made w #[] 0 (Nat.le_refl _) (Nat.zero_le _) rfl
  have B0 : Hid (Below w.heap.size w (w.alloc (.cells #[] 41))) := (Below.refl _ _).alloc (Nat.le_refl _) _
  clear hg
  generalize otherL L key = Z at *
  generalize hst : (fun e => !isKey key e) = st at *
  clear hst
  go_enter Try.func34, Try.ntmps34
  go_wp2
  go_loopw [5, 6] (fun v i wr => ∃ k : Nat, k ≤ L.length ∧ i = .int .i64 k ∧ Hid (wr.ownsRow w.heap.size 41 3 v (stayE st L k).length (enCells (stayE st L k))) ∧ Hid (Below w.heap.size w wr)) (fun _ i _ => L.length - (intOf i).toNat)
  case atStart => exact ⟨0, Nat.zero_le _, rfl, by show World.ownsRow _ _ _ _ _ _ _; rw [HS0.out]; exact O0.out, B0⟩
  case round =>
    obtain ⟨k, hk, rfl, HO, HB⟩ := hrel
    have hle := HLen.out k
    have hws : w.heap.size ≤ wr.heap.size := HB.out.size
    by_cases hlt : k < L.length
    · obtain ⟨g, rfl, hgw, hc⟩ := HG.out (by omega)
      have k0 : (0 : Int) ≤ k := by omega
      have k1 : (k : Int) < L.length := by omega
      have c0 : wr.cell? ⟨g, k * 3, none⟩ = some (.string (atE L k).ke) := by rw [(bcell HB.out).1 _ _ hgw]; exact hc k hlt 0 (by omega)
      have c1 : wr.cell? ⟨g, k * 3 + 1, none⟩ = some (.string (atE L k).na) := by rw [(bcell HB.out).1 _ _ hgw]; exact hc k hlt 1 (by omega)
      have c2 : wr.cell? ⟨g, k * 3 + 2, none⟩ = some (.string (atE L k).va) := by rw [(bcell HB.out).1 _ _ hgw]; exact hc k hlt 2 (by omega)
      have HKY := HSY.out k hlt
      have HKN := HSN.out k hlt
      clear hc
      cases hq : ((atE L k).ke.toList == key.toList) with
      | false =>
        have hqn : ((atE L k).ke.toList != key.toList) = true := by unfold bne; rw [hq]; rfl
        have HKY1 : Hid (∀ (v : Value) (B : Nat) (w' : World), w'.ownsRow B 41 3 v ((stayE st L k).length + 1) (enCells (stayE st L k) ++ enVals (atE L k)) → w'.ownsRow B 41 3 v (stayE st L (k + 1)).length (enCells (stayE st L (k + 1)))) := HKY hq
        clear HKY HKN
        generalize atE L k = y at *
        obtain ⟨ke, na, va⟩ := y
        dsimp only at *
        generalize stayE st L k = Y at *
        go_wp2_with (at_builtin; go_must (refine wpList_append_own _ rfl _ _ 25 rfl w.heap.size 41 i0 (.agg #[.string ⟨#[]⟩, .string ⟨#[]⟩, .string ⟨#[]⟩]) 3 48 Try.underlying25 hi hy0 hy1 hy2 rfl (by decide) _ _ _ rfl (HO.out.alloc _) ⟨wr.heap.size, 0, none⟩ 1 1 (enVals ⟨ke, na, va⟩) rfl rfl (cell_En _ ⟨ke, na, va⟩ _) (one_En ⟨ke, na, va⟩) (by unfold maxLen; omega) (by omega) (by simp; omega) ?_))
        intro v1 w3 ho1 hg1 hn1
        have hb3 : Below w.heap.size w w3 := (HB.out.alloc HB.out.size _).grown hg1 (Nat.le_trans HB.out.size (by simp)) (fun j hj => own_base HO.out j hj)
        have O3 : Hid (w3.ownsRow w.heap.size 41 3 v1 (stayE st L (k + 1)).length (enCells (stayE st L (k + 1)))) := HKY1.out _ _ _ ho1
        have B3 : Hid (Below w.heap.size w w3) := hb3
        clear ho1 hg1 hn1 hb3
        go_wp2
        go_roundw
        case rel => exact ⟨k + 1, by omega, by go_num, O3, B3⟩
        case measure => simp [intOf]; omega
      | true =>
        have hqn : ((atE L k).ke.toList != key.toList) = false := by unfold bne; rw [hq]; rfl
        have HE := HKN hq
        have ON : Hid (∀ v : Value, wr.ownsRow w.heap.size 41 3 v (stayE st L k).length (enCells (stayE st L k)) → wr.ownsRow w.heap.size 41 3 v (stayE st L (k + 1)).length (enCells (stayE st L (k + 1)))) := fun v h => by rw [HE]; exact h
        clear HKY HKN HE
        generalize atE L k = y at *
        obtain ⟨ke, na, va⟩ := y
        dsimp only at *
        go_wp2
        go_roundw
        case rel => exact ⟨k + 1, by omega, by go_num, ON.out _ HO.out, HB⟩
        case measure => simp [intOf]; omega
    · obtain rfl : k = L.length := by omega
      go_wp2
      go_ret
      exact ⟨_, rfl, by rw [HZ.out]; exact sliceE_of_own HO.out, HB.out⟩
set_option maxRecDepth 10000 in
set_option maxHeartbeats 4000000 in
theorem specAreaClear_any (v : Value) (L : List En) (key : ByteArray) (B : Nat) (w : World) (hs : SliceE w B v L) (hn : L.length ≤ 1048576) (hz : ∀ i, i < L.length → (atE L i).na.size ≤ 1048576 ∧ (atE L i).va.size ≤ 1048576) :
    Calls Try.prog 12 #[v, .string key] w fun e w' => ∃ v', e = .returned v' ∧ SliceE w' w.heap.size v' (clearedL L key) ∧ Below w.heap.size w w' := by
  have KF : Hid (Calls Try.prog 33 #[v, .string key] w fun e w' => e = .returned (.bool (areaB L && keyB key)) ∧ Below w.heap.size w w') := specFine_any v L key B w hs hn hz
  have KC : Hid ((areaB L && keyB key) = true → ∀ W, Below w.heap.size w W → Calls Try.prog 34 #[v, .string key] W fun e w' => ∃ v', e = .returned v' ∧ SliceE w' W.heap.size v' (otherL L key) ∧ Below W.heap.size W w') := fun h W hb => by
    rw [Bool.and_eq_true] at h
    exact specClear_any v L key B W (hs.below hb) (areaB_parts h.1).1
  have HY : Hid ((areaB L && keyB key) = true → clearedL L key = otherL L key) := fun h => by unfold clearedL; rw [if_pos h]
  have HNo : Hid ((areaB L && keyB key) = false → clearedL L key = []) := fun h => by unfold clearedL; rw [if_neg (by rw [h]; decide)]
  clear hs hz
  generalize clearedL L key = Z at *
  generalize otherL L key = Y at *
  generalize (areaB L && keyB key) = ok at *
  go_enter Try.func12, Try.ntmps12
  go_wp2_with fail
  refine KF.out.mono ?_
  rintro e w1 ⟨rfl, hb1⟩
  cases ok with
  | false =>
    have HZ : Hid (Z = []) := HNo.out rfl
    have O0 : Hid ((w1.alloc (.cells #[] 41)).ownsRow w1.heap.size 41 3 (.slice (some ⟨w1.heap.size, 0, none⟩) 0 0) 0 (enCells [])) := World.ownsRow_made w1 #[] 0 (Nat.le_refl _) (Nat.zero_le _) rfl
    go_wp2
    go_ret
    exact ⟨_, rfl, by rw [HZ.out]; exact (sliceE_of_own O0.out).mono hb1.size, hb1.alloc hb1.size _⟩
  | true =>
    have KC1 := KC.out rfl
    have HYE : Hid (Z = Y) := HY.out rfl
    go_wp2_with fail
    refine (KC1 _ hb1).mono ?_
    rintro e w2 ⟨v2, rfl, hs2, hb2⟩
    go_wp2
    go_ret
    exact ⟨_, rfl, by rw [HYE.out]; exact hs2.mono hb1.size, hb1.trans (hb2.mono hb1.size)⟩
set_option maxRecDepth 10000 in
set_option maxHeartbeats 4000000 in
theorem specAreaUsed_any (v : Value) (L : List En) (key : ByteArray) (B : Nat) (w : World) (hs : SliceE w B v L) (hn : L.length ≤ 1048576) (hz : ∀ i, i < L.length → (atE L i).na.size ≤ 1048576 ∧ (atE L i).va.size ≤ 1048576) :
    Calls Try.prog 16 #[v, .string key] w fun e w' => e = .returned (.int .i64 (usedI L key : Int)) ∧ Below w.heap.size w w' := by
  have KF : Hid (Calls Try.prog 33 #[v, .string key] w fun e w' => e = .returned (.bool (areaB L && keyB key)) ∧ Below w.heap.size w w') := specFine_any v L key B w hs hn hz
  have KC : Hid ((areaB L && keyB key) = true → ∀ W, Below w.heap.size w W → Calls Try.prog 27 #[v, .string key] W fun e w' => e = .returned (.int .i64 (usedN L key : Int)) ∧ Below W.heap.size W w') := fun h W hb => by
    rw [Bool.and_eq_true] at h
    exact specUsed_any v L key B W (hs.below hb) (areaB_parts h.1).1 hz
  have HY : Hid ((areaB L && keyB key) = true → usedI L key = usedN L key) := fun h => by unfold usedI; rw [if_pos h]
  have HNo : Hid ((areaB L && keyB key) = false → usedI L key = 0) := fun h => by unfold usedI; rw [if_neg (by rw [h]; decide)]
  clear hs hz
  generalize usedI L key = Z at *
  generalize usedN L key = Y at *
  generalize (areaB L && keyB key) = ok at *
  go_enter Try.func16, Try.ntmps16
  go_wp2_with fail
  refine KF.out.mono ?_
  rintro e w1 ⟨rfl, hb1⟩
  cases ok with
  | false =>
    have HZ : Hid (Z = 0) := HNo.out rfl
    go_wp2
    go_ret
    exact ⟨congrArg (fun x : Nat => Ending.returned (.int .i64 (x : Int))) HZ.out.symm, hb1⟩
  | true =>
    have KC1 := KC.out rfl
    have HYE : Hid (Z = Y) := HY.out rfl
    go_wp2_with fail
    refine (KC1 _ hb1).mono ?_
    rintro e w2 ⟨rfl, hb2⟩
    go_wp2
    go_ret
    exact ⟨congrArg (fun x : Nat => Ending.returned (.int .i64 (x : Int))) HYE.out.symm, hb1.trans (hb2.mono hb1.size)⟩
end Go.Proofs.Ytimmoclemcnhnaa

/- A slice of texts that came in; the laws' szStringS and toStringS over it. -/
namespace Go.Proofs.Ytimmoclemcnhnaa
open Go.RowKit

/-- n texts, f of each place, that a slice leads to -/
def StrRow (w : World) (a : Option Addr) (n : Nat) (f : Nat → ByteArray) : Prop := ∀ i, i < n → ∃ x, a = some x ∧ x.block < w.heap.size ∧ w.cell? (x.add i) = some (.string (f i)) ∧ (f i).size ≤ maxLen
theorem StrRow.below {w w' : World} {a : Option Addr} {n : Nat} {f : Nat → ByteArray} (h : StrRow w a n f) (hb : Below w.heap.size w w') : StrRow w' a n f := by
  intro i hi
  obtain ⟨x, e, hx, hc, hs⟩ := h i hi
  have hxb : (x.add i).block = x.block := by unfold Addr.add; split <;> rfl
  exact ⟨x, e, Nat.lt_of_lt_of_le hx hb.size, by rw [hb.cell (p := x.add i) (by rw [hxb]; exact hx)]; exact hc, hs⟩

theorem infoStr2 : (Try.prog.info? 9).map (fun i => (i.zero, i.size, i.bytes)) = some (some (.string ⟨#[]⟩), 1, 16) := by kernel_rfl
theorem make_strs (w : World) (n : Nat) (hn : n ≤ 1048576) :
    ∃ w', Sem.run Try.prog (Instr.makeSlice 33 (.int .i64 (n : Int)) (.int .i64 (n : Int))) w = .ok (.slice (some ⟨w.heap.size, 0, none⟩) n n) w' ∧ w.heap.size < w'.heap.size ∧
      (∀ j, j < n → w'.cell? ⟨w.heap.size, j, none⟩ = some (.string ⟨#[]⟩) ∧ w'.frozen? ⟨w.heap.size, j, none⟩ = false) ∧ Below w.heap.size w w' := by
  obtain ⟨i, h2, h3, h4, h5⟩ := info_parts infoStr2
  have hrun := run_make (P := Try.prog) w 33 9 i (.string ⟨#[]⟩) Try.underlying33 h2 h3 .i64 .i64 n n (by omega) (Int.le_refl _) (by rw [h5]; omega) (by omega)
  simp only [Int.toNat_natCast, h4, Nat.mul_one] at hrun
  refine ⟨_, hrun, by simp, fun j hj => ⟨?_, by simp⟩, (Below.refl _ _).alloc (Nat.le_refl _) _⟩
  have e : madeCells (Value.string ⟨#[]⟩).cells n = Lib.cellsOf [] n := (Lib.cellsOf_nil n).symm
  rw [e, World.cell?_alloc_new]
  simp [Lib.cellsOf, hj]
  rfl

/-- the first k of f, the others empty -/
def upto (f : Nat → ByteArray) (k j : Nat) : ByteArray := if j < k then f j else ⟨#[]⟩
theorem upto_at (f : Nat → ByteArray) (k : Nat) : upto f (k + 1) k = f k := by unfold upto; rw [if_pos (Nat.lt_succ_self _)]
theorem upto_else (f : Nat → ByteArray) (k j : Nat) (h : ¬ j = k) : upto f (k + 1) j = upto f k j := by
  unfold upto
  by_cases hj : j < k
  · rw [if_pos hj, if_pos (by omega)]
  · rw [if_neg hj, if_neg (by omega)]
theorem upto_all (f : Nat → ByteArray) (n j : Nat) (h : j < n) : upto f n j = f j := by unfold upto; rw [if_pos h]
end Go.Proofs.Ytimmoclemcnhnaa

/- The walk of the specification's AreaNames. -/
namespace Go.Proofs.Ytimmoclemcnhnaa
open Go.RowKit

/-- the names of those of a key among the first k -/
def roomNames (L : List En) (key : ByteArray) (k : Nat) : List ByteArray := (stayE (isKey key) L k).map En.na
theorem roomNames_yes {L : List En} {key : ByteArray} {k : Nat} (hk : k < L.length) (h : isKey key (atE L k) = true) : roomNames L key (k + 1) = roomNames L key k ++ [(atE L k).na] := by unfold roomNames; rw [stayE_yes hk h, List.map_append]; rfl
theorem roomNames_no {L : List En} {key : ByteArray} {k : Nat} (hk : k < L.length) (h : isKey key (atE L k) = false) : roomNames L key (k + 1) = roomNames L key k := by unfold roomNames; rw [stayE_no hk h]
theorem roomNames_len (L : List En) (key : ByteArray) (k : Nat) : (roomNames L key k).length ≤ L.length := by unfold roomNames; rw [List.length_map]; exact stayE_len _ L k
set_option maxRecDepth 10000 in
set_option maxHeartbeats 4000000 in
theorem specAreaNames_any (v : Value) (L : List En) (key : ByteArray) (B : Nat) (w : World) (hs : SliceE w B v L) (hn : L.length ≤ 1048576) (hz : ∀ i, i < L.length → (atE L i).na.size ≤ 1048576 ∧ (atE L i).va.size ≤ 1048576) :
    Calls Try.prog 18 #[v, .string key] w fun e w' => ∃ v', e = .returned v' ∧ SliceS w' w.heap.size v' (namesL L key).length (atL (namesL L key)) ∧ Below w.heap.size w w' := by
  have KF : Hid (∀ W, Below w.heap.size w W → Calls Try.prog 33 #[v, .string key] W fun e w' => e = .returned (.bool (areaB L && keyB key)) ∧ Below W.heap.size W w') := fun W hb => specFine_any v L key B W (hs.below hb) hn hz
  have HP : Hid ((areaB L && keyB key) = true → L.length ≤ 16) := fun h => by
    rw [Bool.and_eq_true] at h
    exact (areaB_parts h.1).1
  have HY : Hid ((areaB L && keyB key) = true → namesL L key = roomNames L key L.length) := fun h => by unfold namesL roomNames roomL; rw [if_pos h, stayE_all]
  have HNo : Hid ((areaB L && keyB key) = false → namesL L key = []) := fun h => by unfold namesL; rw [if_neg (by rw [h]; decide)]
  obtain ⟨i0, hi, hy0, hy1, hy2⟩ := info_parts infoStr
  obtain ⟨⟨p, cap, rfl, hg⟩, -⟩ := hs
  have HG : Hid (0 < L.length → ∃ g, p = some ⟨g, 0, none⟩ ∧ g < w.heap.size ∧ ∀ j, j < L.length → ∀ o, o < 3 → w.cell? ⟨g, j * 3 + o, none⟩ = some (enC (atE L j) o)) := fun h0 => by
    obtain ⟨g, e, -, hgw, hc⟩ := hg h0
    exact ⟨g, e, hgw, fun j hj o ho => (hc j hj o ho).1⟩
  have HSY : Hid (∀ k, k < L.length → ((atE L k).ke.toList == key.toList) = true → roomNames L key (k + 1) = roomNames L key k ++ [(atE L k).na]) := fun k hlt a => roomNames_yes hlt a
  have HSN : Hid (∀ k, k < L.length → ((atE L k).ke.toList == key.toList) = false → roomNames L key (k + 1) = roomNames L key k) := fun k hlt a => roomNames_no hlt a
  have HS0 : Hid (roomNames L key 0 = []) := by show _ = _; unfold roomNames; rw [stayE_zero]; rfl
  have HLen : Hid (∀ k, (roomNames L key k).length ≤ L.length) := fun k => roomNames_len L key k
  have O0 : Hid ((w.alloc (.cells #[] 9)).ownsRow w.heap.size 9 1 (.slice (some ⟨w.heap.size, 0, none⟩) 0 0) 0 (strCells [])) := World.ownsRow_made w #[] 0 (Nat.le_refl _) (Nat.zero_le _) rfl
  have B0 : Hid (Below w.heap.size w (w.alloc (.cells #[] 9))) := (Below.refl _ _).alloc (Nat.le_refl _) _
  clear hg hz
  generalize namesL L key = Z at *
  generalize (areaB L && keyB key) = ok at *
  generalize hF : roomNames L key = F at *
  clear hF
  go_enter Try.func18, Try.ntmps18
  go_wp2
  go_loopw [5, 6] (fun a i wr => ∃ (k : Nat), k ≤ L.length ∧ (ok = false → k = 0) ∧ i = .int .i64 k ∧ Hid (wr.ownsRow w.heap.size 9 1 a (F k).length (strCells (F k))) ∧ Hid (Below w.heap.size w wr)) (fun _ i _ => L.length - (intOf i).toNat)
  case atStart => exact ⟨0, Nat.zero_le _, fun _ => rfl, rfl, by show World.ownsRow _ _ _ _ _ _ _; rw [HS0.out]; exact O0.out, B0⟩
  case round =>
    obtain ⟨k, hk, hok, rfl, HO, HB⟩ := hrel
    have hws : w.heap.size ≤ wr.heap.size := HB.out.size
    have hfl := HLen.out k
    go_wp2_with fail
    refine (KF.out _ HB.out).mono ?_
    rintro e w1 ⟨rfl, hb1⟩
    have B1 : Hid (Below w.heap.size w w1) := HB.out.trans (hb1.mono hws)
    have O1 : Hid (w1.ownsRow w.heap.size 9 1 _ (F k).length (strCells (F k))) := ownR_below HO.out hb1
    have hw1 : w.heap.size ≤ w1.heap.size := B1.out.size
    clear hb1 HB HO hws
    cases ok with
    | false =>
      obtain rfl : k = 0 := hok rfl
      have HZ : Hid (Z = F 0) := by show _ = _; rw [HNo.out rfl, HS0.out]
      go_wp2
      go_ret
      exact ⟨_, rfl, by rw [HZ.out]; exact slice_of_own O1.out, B1.out⟩
    | true =>
    have h16 := HP.out rfl
    by_cases hlt : k < L.length
    · obtain ⟨g, rfl, hgw, hc⟩ := HG.out (by omega)
      have k0 : (0 : Int) ≤ k := by omega
      have k1 : (k : Int) < L.length := by omega
      have c0 : w1.cell? ⟨g, k * 3, none⟩ = some (.string (atE L k).ke) := by rw [(bcell B1.out).1 _ _ hgw]; exact hc k hlt 0 (by omega)
      have c1 : w1.cell? ⟨g, k * 3 + 1, none⟩ = some (.string (atE L k).na) := by rw [(bcell B1.out).1 _ _ hgw]; exact hc k hlt 1 (by omega)
      have hsy := HSY.out k hlt
      have hsn := HSN.out k hlt
      have q1 : decide ((k : Int) < (L.length : Int)) = true := by rw [decide_eq_true_iff]; omega
      clear hc
      cases hq : ((atE L k).ke.toList == key.toList) with
      | true =>
        have HFS : Hid (F (k + 1) = F k ++ [(atE L k).na]) := hsy hq
        clear hsy hsn
        generalize atE L k = y at *
        obtain ⟨ke, na, va⟩ := y
        dsimp only at *
        go_wp2_with (at_builtin; go_must (refine wpList_append_own _ rfl _ _ 33 rfl w.heap.size 9 i0 (.string ⟨#[]⟩) 1 16 Try.underlying33 hi hy0 hy1 hy2 rfl (by decide) _ _ _ rfl (O1.out.alloc _) ⟨w1.heap.size, 0, none⟩ 1 1 [.string na] rfl rfl (cell_one_new _ _ _) (by intro u hu; simp at hu; subst hu; rfl) (by unfold maxLen; omega) (by omega) (by simp; omega) ?_))
        intro v4 w4 ho4 hg4 _
        rw [strCells_snoc] at ho4
        have G1 : Hid (w4.ownsRow w.heap.size 9 1 v4 (F k ++ [na]).length (strCells (F k ++ [na]))) := by show World.ownsRow _ _ _ _ _ _ _; simpa using ho4
        have G2 : Hid (Below w.heap.size w w4) := (B1.out.alloc hw1 _).grown hg4 (by simp; omega) (fun j hj => (O1.out.lt j hj).1)
        clear ho4 hg4
        go_wp2
        go_roundw
        case rel => exact ⟨k + 1, by omega, (fun h => by cases h), by go_num, by rw [HFS.out]; exact G1, G2⟩
        case measure => simp [intOf]; omega
      | false =>
        have HFS := hsn hq
        have ON : Hid (∀ v : Value, w1.ownsRow w.heap.size 9 1 v (F k).length (strCells (F k)) → w1.ownsRow w.heap.size 9 1 v (F (k + 1)).length (strCells (F (k + 1)))) := fun v h => by rw [HFS]; exact h
        clear hsy hsn HFS
        generalize atE L k = y at *
        obtain ⟨ke, na, va⟩ := y
        dsimp only at *
        go_wp2
        go_roundw
        case rel => exact ⟨k + 1, by omega, (fun h => by cases h), by go_num, ON.out _ O1.out, B1⟩
        case measure => simp [intOf]; omega
    · obtain rfl : k = L.length := by omega
      have HZ : Hid (Z = F L.length) := HY.out rfl
      have q1 : decide ((L.length : Int) < (L.length : Int)) = false := by rw [decide_eq_false_iff_not]; omega
      go_wp2
      go_ret
      exact ⟨_, rfl, by rw [HZ.out]; exact slice_of_own O1.out, B1.out⟩
end Go.Proofs.Ytimmoclemcnhnaa
