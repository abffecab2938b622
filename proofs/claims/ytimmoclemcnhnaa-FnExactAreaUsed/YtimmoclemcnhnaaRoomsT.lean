/- Rooms as plain functions: those of one key, all others, the bytes and the names of one. -/
import Derived.Test.YtimmoclemcnhnaaRoomT
namespace Go.Proofs.Ytimmoclemcnhnaa
open Go.RowKit Go.Maps

def isKey (key : ByteArray) (e : En) : Bool := e.ke.toList == key.toList
def roomL (L : List En) (key : ByteArray) : List En := L.filter (isKey key)
def otherL (L : List En) (key : ByteArray) : List En := L.filter (fun e => !isKey key e)
def clearedL (L : List En) (key : ByteArray) : List En := if (areaB L && keyB key) = true then otherL L key else []
def usedI (L : List En) (key : ByteArray) : Nat := if (areaB L && keyB key) = true then usedN L key else 0
def namesL (L : List En) (key : ByteArray) : List ByteArray := if (areaB L && keyB key) = true then (roomL L key).map En.na else []
/-- those of the first k that stay -/
def stayE (p : En → Bool) (L : List En) (k : Nat) : List En := (L.take k).filter p
theorem stayE_yes {p : En → Bool} {L : List En} {k : Nat} (hk : k < L.length) (h : p (atE L k) = true) : stayE p L (k + 1) = stayE p L k ++ [atE L k] := by
  rw [atE_get hk] at *
  unfold stayE
  rw [← List.take_append_getElem hk, List.filter_append, List.filter_cons_of_pos h, List.filter_nil]
theorem stayE_no {p : En → Bool} {L : List En} {k : Nat} (hk : k < L.length) (h : p (atE L k) = false) : stayE p L (k + 1) = stayE p L k := by
  rw [atE_get hk] at *
  unfold stayE
  rw [← List.take_append_getElem hk, List.filter_append, List.filter_cons_of_neg (by rw [h]; simp), List.filter_nil, List.append_nil]
theorem stayE_all (p : En → Bool) (L : List En) : stayE p L L.length = L.filter p := by unfold stayE; rw [List.take_length]
theorem stayE_zero (p : En → Bool) (L : List En) : stayE p L 0 = [] := by unfold stayE; rw [List.take_zero]; rfl
theorem stayE_len (p : En → Bool) (L : List En) (k : Nat) : (stayE p L k).length ≤ L.length := Nat.le_trans (List.length_filter_le _ _) (by rw [List.length_take]; omega)
/-- the bytes of the first k -/
def sumTo (L : List En) : Nat → Nat
  | 0 => 0
  | k + 1 => sumTo L k + enN (atE L k)
theorem sumTo_app (L : List En) (e : En) : ∀ k, k ≤ L.length → sumTo (L ++ [e]) k = sumTo L k
  | 0, _ => rfl
  | k + 1, h => by
    rw [sumTo, sumTo, sumTo_app L e k (by omega), atE_get (by omega : k < L.length), atE_get (by rw [List.length_append]; simp; omega : k < (L ++ [e]).length), List.getElem_append_left]
theorem sumTo_snoc (L : List En) (e : En) : sumTo (L ++ [e]) (L ++ [e]).length = sumTo L L.length + enN e := by
  rw [List.length_append]
  show sumTo _ (L.length + 1) = _
  rw [sumTo, sumTo_app L e _ (Nat.le_refl _), atE_get (by rw [List.length_append]; simp)]
  simp
theorem used_stay (L : List En) (key : ByteArray) : ∀ k, k ≤ L.length → usedTo L key k = sumTo (stayE (isKey key) L k) (stayE (isKey key) L k).length
  | 0, _ => by rw [stayE_zero]; rfl
  | k + 1, h => by
    rw [usedTo, used_stay L key k (by omega)]
    cases hq : ((atE L k).ke.toList == key.toList) with
    | true => rw [if_pos rfl, stayE_yes (by omega) hq, sumTo_snoc]
    | false => rw [if_neg (by decide), stayE_no (by omega) hq, Nat.add_zero]
theorem used_room (L : List En) (key : ByteArray) : usedN L key = sumTo (roomL L key) (roomL L key).length := by
  unfold usedN roomL
  rw [used_stay L key _ (Nat.le_refl _), stayE_all]
theorem rise_filter {L : List En} (h : RiseE L) (p : En → Bool) : RiseE (L.filter p) := h.sublist List.filter_sublist
/-- what is left when all of a room are dropped -/
theorem others_of {L M : List En} {key : ByteArray} (hs : ∀ e, e ∈ L → smallE e) (h : ∀ x, x ∈ M ↔ x ∈ L ∧ ∀ j, j < (roomL L key).length → keyE x ≠ keyE (atE (roomL L key) j)) : ∀ x, x ∈ otherL L key ↔ x ∈ M := by
  intro x
  rw [h x]
  unfold otherL
  rw [List.mem_filter]
  constructor
  · rintro ⟨hx, hk⟩
    refine ⟨hx, fun j hj e => ?_⟩
    have hm : (roomL L key)[j] ∈ roomL L key := List.getElem_mem hj
    rw [atE_get hj] at e
    generalize (roomL L key)[j] = y at *
    unfold roomL at hm
    obtain ⟨hy, hyk⟩ := List.mem_filter.1 hm
    have := keyE_inj (hs x hx) (hs y hy) e
    unfold isKey at hk hyk
    rw [this.1] at hk
    rw [hyk] at hk; cases hk
  · rintro ⟨hx, hk⟩
    refine ⟨hx, ?_⟩
    cases hq : isKey key x with
    | false => rfl
    | true =>
      exfalso
      have hm : x ∈ roomL L key := List.mem_filter.2 ⟨hx, hq⟩
      obtain ⟨j, hj, e⟩ := List.mem_iff_getElem.1 hm
      exact hk j hj (by rw [atE_get hj, e])
theorem isKey_data (key : ByteArray) (e : En) : isKey key e = (e.ke.toList == key.toList) := rfl
end Go.Proofs.Ytimmoclemcnhnaa
