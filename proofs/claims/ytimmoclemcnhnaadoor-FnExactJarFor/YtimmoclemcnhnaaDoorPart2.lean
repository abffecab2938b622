/- 11 of this claim's texts, one behind the other. -/
import Derived.Test.YtimmoclemcnhnaaDoorPart1
import Derived.Laws.AppendOwn
import Derived.Laws.ResultCell
import Derived.WalkKit
import Derived.WalkSpells
import Derived.WalkLawsBesides
import Derived.Deep.RegionHeld3
import Derived.Deep.DeepCutAuto
import Derived.Deep.AppendLies
import Derived.Laws.OwnMore
/- What a right jar is. Written by specjar.py. -/
namespace Go.Proofs.YtimmoclemcnhnaaDoor
open Go.RowKit

/-- of one place -/
def sameK (a b : Ck) : Bool := (a.ho.toList == b.ho.toList) && (a.al == b.al) && (a.pa.toList == b.pa.toList) && (a.pt.toList == b.pt.toList) && (a.na.toList == b.na.toList)
/-- the cookie at a place: right, made behind the one ahead, of another place than those ahead -/
def okJ (L : List Ck) (i : Nat) : Bool := ckB (atC L i) && (i == 0 || decide ((atC L (i - 1)).ma < (atC L i).ma)) && decide (∀ k, k < i → sameK (atC L k) (atC L i) = false)
/-- a right jar -/
def jarB (L : List Ck) : Bool := decide (L.length ≤ 12) && decide (∀ i, i < L.length → okJ L i = true)
theorem jarB_at {L : List Ck} (k : Nat) (h : k < L.length) (hk : okJ L k = false) : jarB L = false := by
  unfold jarB
  rw [decide_eq_false (p := ∀ i, i < L.length → okJ L i = true) (fun h' => by rw [h' k h] at hk; cases hk), Bool.and_false]
theorem jarB_all {L : List Ck} (h : ∀ i, i < L.length → okJ L i = true) : jarB L = decide (L.length ≤ 12) := by
  unfold jarB
  rw [decide_eq_true h, Bool.and_true]
theorem jarB_long {L : List Ck} (h : 12 < L.length) : jarB L = false := by
  unfold jarB
  rw [decide_eq_false (by omega), Bool.false_and]
theorem jarB_parts {L : List Ck} (h : jarB L = true) : L.length ≤ 12 ∧ ∀ i, i < L.length → okJ L i = true := by
  unfold jarB at h
  rw [Bool.and_eq_true, decide_eq_true_eq, decide_eq_true_eq] at h
  exact h
theorem okJ_no {L : List Ck} {i : Nat} (h : ckB (atC L i) = false) : okJ L i = false := by unfold okJ; rw [h]; rfl
theorem okJ_made {L : List Ck} {m : Nat} (h : ¬ (atC L m).ma < (atC L (m + 1)).ma) : okJ L (m + 1) = false := by
  unfold okJ
  have e : (m + 1 == 0) = false := rfl
  rw [Nat.add_sub_cancel, decide_eq_false h, e]
  cases ckB (atC L (m + 1)) <;> rfl
theorem okJ_same {L : List Ck} {i : Nat} (k : Nat) (hk : k < i) (h : sameK (atC L k) (atC L i) = true) : okJ L i = false := by
  unfold okJ
  rw [decide_eq_false (p := ∀ k, k < i → sameK (atC L k) (atC L i) = false) (fun h' => by rw [h' k hk] at h; cases h), Bool.and_false]
theorem okJ_yes {L : List Ck} {i : Nat} (h : ckB (atC L i) = true) (hm : i = 0 ∨ (atC L (i - 1)).ma < (atC L i).ma) (hs : ∀ k, k < i → sameK (atC L k) (atC L i) = false) : okJ L i = true := by
  unfold okJ
  rw [h, decide_eq_true hs, Bool.and_true, Bool.true_and]
  rcases hm with rfl | hm
  · rfl
  · rw [decide_eq_true hm, Bool.or_true]
theorem okJ_right {L : List Ck} {i : Nat} (h : okJ L i = true) : ckB (atC L i) = true := by
  unfold okJ at h; rw [Bool.and_eq_true, Bool.and_eq_true] at h; exact h.1.1
theorem okJ_apart {L : List Ck} {i : Nat} (h : okJ L i = true) : ∀ k, k < i → sameK (atC L k) (atC L i) = false := by
  unfold okJ at h; rw [Bool.and_eq_true, decide_eq_true_eq] at h; exact h.2
theorem okJ_rise {L : List Ck} {m : Nat} (h : okJ L (m + 1) = true) : (atC L m).ma < (atC L (m + 1)).ma := by
  unfold okJ at h
  rw [Bool.and_eq_true, Bool.and_eq_true, Nat.add_sub_cancel] at h
  have e : (m + 1 == 0) = false := rfl
  rw [e, Bool.false_or, decide_eq_true_eq] at h
  exact h.1.2
theorem okJ_succ {L : List Ck} {k : Nat} (h : ∀ i, i < k → okJ L i = true) (hk : okJ L k = true) : ∀ i, i < k + 1 → okJ L i = true := by
  intro i hi
  by_cases e : i = k
  · subst e; exact hk
  · exact h i (by omega)
end Go.Proofs.YtimmoclemcnhnaaDoor

/- Rows of cookies that a call owns; a store of what is there already. Written by jarown.py. -/
namespace Go.Proofs.YtimmoclemcnhnaaDoor
open Go.RowKit

/-- a cookie's cells -/
def ckVals (c : Ck) : List Value := [.string c.na, .string c.va, .string c.ho, .bool c.al, .string c.pa, .bool c.se, .int .i64 c.mo, .string c.pt, .int .i64 c.un, .int .i64 c.ma]
def ckCells : List Ck → List Value
  | [] => []
  | c :: L => ckVals c ++ ckCells L
theorem ckCells_snoc (L : List Ck) (c : Ck) : ckCells L ++ ckVals c = ckCells (L ++ [c]) := by
  induction L with
  | nil => simp [ckCells]
  | cons q L ih => simp only [ckCells, List.cons_append, List.append_assoc, ih]
theorem ckCells_len (L : List Ck) : (ckCells L).length = L.length * 10 := by
  induction L with
  | nil => rfl
  | cons q L ih => simp only [ckCells, List.length_append, ih, List.length_cons]; show 10 + _ = _; omega
theorem ckVals_at (c : Ck) : ∀ o, o < 10 → (ckVals c)[o]? = some (ckC c o)
  | 0, _ => rfl
  | 1, _ => rfl
  | 2, _ => rfl
  | 3, _ => rfl
  | 4, _ => rfl
  | 5, _ => rfl
  | 6, _ => rfl
  | 7, _ => rfl
  | 8, _ => rfl
  | 9, _ => rfl
theorem ckCells_at : ∀ (L : List Ck) (j : Nat), j < L.length → ∀ o, o < 10 → (ckCells L)[j * 10 + o]? = some (ckR L j o)
  | [], j, h, _, _ => by simp at h
  | c :: L, 0, _, o, ho => by
    rw [Nat.zero_mul, Nat.zero_add, ckCells, List.getElem?_append_left (by show o < 10; exact ho), ckVals_at c o ho]
    rfl
  | c :: L, j + 1, h, o, ho => by
    have ih := ckCells_at L j (by simpa using h) o ho
    have hl : (ckVals c).length = 10 := rfl
    rw [ckCells, List.getElem?_append_right (by rw [hl]; omega), hl, show (j + 1) * 10 + o - 10 = j * 10 + o by omega, ih]
    simp [ckR, atC]
theorem sliceC_of_own {w : World} {B : Nat} {t : TypeId} {v : Value} {L : List Ck} (h : w.ownsRow B t 10 v L.length (ckCells L)) : SliceC w B v L := by
  refine ⟨sliceR_of_own h (ckCells_at L), ?_⟩
  obtain ⟨_, ⟨rfl, h0⟩ | ⟨g, cap, cur, rfl, _, _, hc, _⟩⟩ := h
  · exact ⟨none, 0, by rw [h0], by omega⟩
  · exact ⟨_, cap, rfl, hc⟩
theorem cell_ten (w : World) (c : Ck) (t : TypeId) : ∀ j u, (ckVals c)[j]? = some u → (w.alloc (.cells #[.string c.na, .string c.va, .string c.ho, .bool c.al, .string c.pa, .bool c.se, .int .i64 c.mo, .string c.pt, .int .i64 c.un, .int .i64 c.ma] t)).cell? ((⟨w.heap.size, 0, none⟩ : Addr).add j) = some u := by
  intro j u h
  have e : (⟨w.heap.size, 0, none⟩ : Addr).add j = ⟨w.heap.size, j, none⟩ := by unfold Addr.add; split <;> simp_all
  rw [e, World.cell?_alloc_new, ← Array.getElem?_toList]
  exact h
theorem one_ten (c : Ck) : ∀ v ∈ ckVals c, v.oneCell' = true := by
  intro u hu
  simp only [ckVals, List.mem_cons, List.not_mem_nil, or_false] at hu
  rcases hu with rfl | rfl | rfl | rfl | rfl | rfl | rfl | rfl | rfl | rfl <;> rfl
/-- what is there already, stored once more -/
theorem setCell_self {w : World} {b o : Nat} {v : Value} (h : w.cell? ⟨b, o, none⟩ = some v) : w.setCell ⟨b, o, none⟩ v = w := by
  have hb : b < w.heap.size := by
    by_cases hb : b < w.heap.size
    · exact hb
    · exfalso
      simp [World.cell?, Array.getElem?_eq_none (show w.heap.size ≤ b by omega)] at h
  have hs : (w.setCell ⟨b, o, none⟩ v).heap = w.heap := by
    refine Array.ext (by simp [World.setCell]) (fun i h1 h2 => ?_)
    by_cases e : i = b
    · subst e
      unfold World.cell? at h
      rw [Array.getElem?_eq_getElem hb] at h
      simp only [World.setCell, Array.getElem_modify, if_true]
      cases hc : w.heap[i] with
      | cells c t fz =>
        rw [hc] at h
        simp only [Option.isSome_none, Bool.false_eq_true, if_false] at h ⊢
        congr 1
        refine Array.ext (by simp) (fun k k1 k2 => ?_)
        rw [Array.getElem_setIfInBounds]
        split
        · rename_i e2
          subst e2
          have h3 : c[o]? = some v := by simpa using h
          rw [Array.getElem?_eq_getElem (by simpa using k1)] at h3
          exact (Option.some.inj h3).symm
        · rfl
      | _ => rfl
    · simp only [World.setCell, Array.getElem_modify, if_neg (Ne.symm e)]
  cases w
  simp only [World.setCell] at hs ⊢
  rw [hs]
end Go.Proofs.YtimmoclemcnhnaaDoor

/- Who of a jar stays. Written by jarold.py. -/
namespace Go.Proofs.YtimmoclemcnhnaaDoor

/-- those of the first k that stay -/
def stayTo (p : Ck → Bool) (L : List Ck) (k : Nat) : List Ck := (L.take k).filter p
theorem stayTo_zero (p : Ck → Bool) (L : List Ck) : stayTo p L 0 = [] := rfl
theorem stayTo_yes {p : Ck → Bool} {L : List Ck} {k : Nat} (hk : k < L.length) (h : p (atC L k) = true) : stayTo p L (k + 1) = stayTo p L k ++ [atC L k] := by
  have e : L.take (k + 1) = L.take k ++ [atC L k] := by
    rw [List.take_succ_eq_append_getElem hk]
    simp [atC, hk]
  unfold stayTo
  rw [e, List.filter_append]
  simp [h]
theorem stayTo_no {p : Ck → Bool} {L : List Ck} {k : Nat} (hk : k < L.length) (h : p (atC L k) = false) : stayTo p L (k + 1) = stayTo p L k := by
  have e : L.take (k + 1) = L.take k ++ [atC L k] := by
    rw [List.take_succ_eq_append_getElem hk]
    simp [atC, hk]
  unfold stayTo
  rw [e, List.filter_append]
  simp [h]
theorem stayTo_all (p : Ck → Bool) (L : List Ck) : stayTo p L L.length = L.filter p := by unfold stayTo; rw [List.take_length]
theorem stayTo_len (p : Ck → Bool) (L : List Ck) (k : Nat) : (stayTo p L k).length ≤ L.length := by
  unfold stayTo
  refine Nat.le_trans (List.length_filter_le _ _) ?_
  rw [List.length_take]; omega
/-- not old -/
def liveB (now : Int) (c : Ck) : Bool := (c.un == 0) || decide (now < c.un)
/-- what is left of a jar when the old ones are gone -/
def oldL (L : List Ck) (now : Int) : List Ck := if jarB L && timeB now then L.filter (liveB now) else []
theorem oldL_no {L : List Ck} {now : Int} (h : (jarB L && timeB now) = false) : oldL L now = [] := by unfold oldL; rw [h]; rfl
theorem oldL_yes {L : List Ck} {now : Int} (h : (jarB L && timeB now) = true) : oldL L now = stayTo (liveB now) L L.length := by unfold oldL; rw [h, stayTo_all]; rfl
theorem oldL_len (L : List Ck) (now : Int) : (oldL L now).length ≤ 12 := by
  cases h : (jarB L && timeB now) with
  | false => rw [oldL_no h]; decide
  | true =>
    rw [oldL_yes h]
    rw [Bool.and_eq_true] at h
    have := stayTo_len (liveB now) L L.length
    have := (jarB_parts h.1).1
    omega
end Go.Proofs.YtimmoclemcnhnaaDoor

/- What goes along, in its order: the longer path first, of one length as it lies in the jar: plain facts. -/
namespace Go.Proofs.YtimmoclemcnhnaaDoor

/-- those of n's length, then those of less -/
def byLen (M : List Ck) : Nat → List Ck
  | 0 => []
  | n + 1 => M.filter (fun c => c.pa.size == n + 1) ++ byLen M n
/-- those of n's length down to k's -/
def hiL (M : List Ck) (k : Nat) : Nat → List Ck
  | 0 => []
  | n + 1 => if k ≤ n + 1 then M.filter (fun c => c.pa.size == n + 1) ++ hiL M k n else []
theorem hiL_nil (M : List Ck) (k : Nat) : ∀ n, n < k → hiL M k n = []
  | 0, _ => rfl
  | n + 1, h => by rw [hiL, if_neg (by omega)]
theorem byLen_split (M : List Ck) (k : Nat) (hk : 0 < k) : ∀ n, k ≤ n + 1 → byLen M n = hiL M k n ++ byLen M (k - 1)
  | 0, h => by
    obtain rfl : k = 1 := by omega
    rfl
  | n + 1, h => by
    by_cases e : k = n + 2
    · subst e
      rw [hiL_nil M _ _ (by omega), List.nil_append]
      rfl
    · rw [byLen, hiL, if_pos (by omega), byLen_split M k hk n (by omega), List.append_assoc]
theorem size_ne {c : Ck} {n : Nat} (h : ¬ c.pa.size = n) (M : List Ck) : (M ++ [c]).filter (fun c => c.pa.size == n) = M.filter (fun c => c.pa.size == n) := by
  rw [List.filter_append]
  simp [h]
theorem size_eq5 {c : Ck} {n : Nat} (h : c.pa.size = n) (M : List Ck) : (M ++ [c]).filter (fun c => c.pa.size == n) = M.filter (fun c => c.pa.size == n) ++ [c] := by
  rw [List.filter_append]
  simp [h]
theorem byLen_low (M : List Ck) (c : Ck) : ∀ n, n < c.pa.size → byLen (M ++ [c]) n = byLen M n
  | 0, _ => rfl
  | n + 1, h => by rw [byLen, byLen, size_ne (by omega), byLen_low M c n (by omega)]
theorem hiL_snoc (M : List Ck) (c : Ck) (h0 : 0 < c.pa.size) : ∀ n, c.pa.size ≤ n → hiL (M ++ [c]) c.pa.size n = hiL M c.pa.size n ++ [c]
  | 0, h => absurd h (by omega)
  | n + 1, h => by
    rw [hiL, hiL, if_pos h, if_pos h]
    by_cases e : c.pa.size = n + 1
    · rw [size_eq5 e, hiL_nil _ _ _ (by omega), hiL_nil _ _ _ (by omega)]
      simp
    · rw [size_ne e, hiL_snoc M c h0 n (by omega), List.append_assoc]
/-- one more: behind those that are as long or longer -/
theorem byLen_snoc (M : List Ck) (c : Ck) (n : Nat) (h0 : 0 < c.pa.size) (h : c.pa.size ≤ n) : byLen (M ++ [c]) n = hiL M c.pa.size n ++ [c] ++ byLen M (c.pa.size - 1) := by
  rw [byLen_split _ c.pa.size h0 n (by omega), hiL_snoc M c h0 n h, byLen_low M c _ (by omega)]
theorem byLen_mem {M : List Ck} {x : Ck} : ∀ n, x ∈ byLen M n → x.pa.size ≤ n ∧ x ∈ M
  | 0, h => by simp [byLen] at h
  | n + 1, h => by
    rw [byLen, List.mem_append, List.mem_filter] at h
    rcases h with ⟨h1, h2⟩ | h
    · exact ⟨Nat.le_of_eq (by simpa using h2), h1⟩
    · have := byLen_mem n h
      exact ⟨by omega, this.2⟩
theorem hiL_mem {M : List Ck} {k : Nat} {x : Ck} : ∀ n, x ∈ hiL M k n → k ≤ x.pa.size ∧ x ∈ M
  | 0, h => by simp [hiL] at h
  | n + 1, h => by
    rw [hiL] at h
    by_cases e : k ≤ n + 1
    · rw [if_pos e, List.mem_append, List.mem_filter] at h
      rcases h with ⟨h1, h2⟩ | h
      · have h3 : x.pa.size = n + 1 := by simpa using h2
        exact ⟨by omega, h1⟩
      · exact hiL_mem n h
    · rw [if_neg e] at h; cases h
theorem byLen_len (M : List Ck) : ∀ n, (byLen M n).length ≤ M.length * n
  | 0 => Nat.le_refl _
  | n + 1 => by
    rw [byLen, List.length_append, Nat.mul_succ]
    have := byLen_len M n
    have := List.length_filter_le (fun c : Ck => c.pa.size == n + 1) M
    omega
end Go.Proofs.YtimmoclemcnhnaaDoor

/- The walk of cmp.Or at int. -/
namespace Go.Proofs.YtimmoclemcnhnaaDoor
open Go.RowKit

set_option maxRecDepth 10000 in
set_option maxHeartbeats 1000000 in
theorem orInt_any (a b : Int) (g : Nat) (w : World) (h0 : w.cell? ⟨g, 0, none⟩ = some (.int .i64 a)) (h1 : w.cell? ⟨g, 1, none⟩ = some (.int .i64 b)) : Calls Tryd.prog 132 #[.slice (some ⟨g, 0, none⟩) 2 2] w fun e w' => e = .returned (.int .i64 (if a = 0 then b else a)) ∧ w' = w := by
  have HO : Hid ((if a = 0 then b else a) = if a = 0 then b else a) := rfl
  generalize hR : (if a = 0 then b else a) = R at *
  have HR : Hid ((if a = 0 then b else a) = R) := hR
  clear hR HO
  go_enter Tryd.func132, Tryd.ntmps132
  go_wp2
  go_loopw [8] (fun i wr => ∃ k : Nat, k ≤ 2 ∧ i = .int .i64 k ∧ wr = w ∧ (0 < k → a = 0) ∧ (1 < k → b = 0)) (fun i _ => 2 - (intOf i).toNat)
  case atStart => exact ⟨0, by omega, rfl, rfl, fun h => absurd h (by omega), fun h => absurd h (by omega)⟩
  case round =>
    obtain ⟨k, hk, rfl, rfl, ha, hb⟩ := hrel
    match k, hk with
    | 0, _ =>
      clear ha hb
      by_cases e : a = 0
      · subst e
        go_wp2
        go_roundw
        case rel => exact ⟨1, by omega, by first | rfl | go_num, (by first | rfl | trivial), (fun _ => by first | rfl | trivial), fun h => absurd h (by omega)⟩
        case measure => simp [intOf]
      · have q : (a != 0) = true := by rw [bne_iff_ne]; exact e
        have HR1 : Hid (R = a) := by show _ = _; rw [← HR.out, if_neg e]
        go_wp2
        go_ret
        exact ⟨by rw [HR1.out]; rfl, rfl⟩
    | 1, _ =>
      obtain rfl := ha (by omega)
      have HR1 : Hid (R = b) := by show _ = _; rw [← HR.out, if_pos rfl]
      clear ha hb
      by_cases e : b = 0
      · subst e
        go_wp2
        go_roundw
        case rel => exact ⟨2, by omega, by first | rfl | go_num, (by first | rfl | trivial), (fun _ => by first | rfl | trivial), (fun _ => by first | rfl | trivial)⟩
        case measure => simp [intOf]
      · have q : (b != 0) = true := by rw [bne_iff_ne]; exact e
        go_wp2
        go_ret
        exact ⟨by rw [HR1.out]; rfl, rfl⟩
    | 2, _ =>
      obtain rfl := ha (by omega)
      obtain rfl := hb (by omega)
      have HR1 : Hid (R = 0) := by show _ = _; rw [← HR.out, if_pos rfl]
      clear ha hb
      go_wp2
      go_ret
      exact ⟨by rw [HR1.out]; rfl, rfl⟩
end Go.Proofs.YtimmoclemcnhnaaDoor

/- The walks of cmp.Compare and cmp.Or at int, and of the program's nearestFirst. -/
namespace Go.Proofs.YtimmoclemcnhnaaDoor
open Go.RowKit

def ordI (x y : Int) : Int := if x < y then -1 else if y < x then 1 else 0
def nearI (c d : Ck) : Int := if ordI d.pa.size c.pa.size = 0 then ordI c.ma d.ma else ordI d.pa.size c.pa.size
set_option maxRecDepth 10000 in
set_option maxHeartbeats 1000000 in
theorem cmpInt_any (x y : Int) (w : World) : Calls Tryd.prog 133 #[.int .i64 x, .int .i64 y] w fun e w' => e = .returned (.int .i64 (ordI x y)) ∧ w' = w := by
  have KN : Hid (∀ (z : Int) (W : World), Calls Tryd.prog 178 #[.int .i64 z] W fun e w' => e = .returned (.bool false) ∧ w' = W) := fun z W => by
    go_enter Tryd.func178, Tryd.ntmps178
    go_wp2
    go_ret
    exact ⟨rfl, rfl⟩
  have HO : Hid (ordI x y = if x < y then -1 else if y < x then 1 else 0) := rfl
  generalize ordI x y = R at *
  by_cases h1 : x < y
  · have HR : Hid (R = -1) := by show _ = _; rw [HO.out, if_pos h1]
    go_enter Tryd.func133, Tryd.ntmps133
    go_wp2_with fail
    refine (KN.out x _).mono ?_
    rintro e w1 ⟨rfl, rfl⟩
    go_wp2_with fail
    refine (KN.out y _).mono ?_
    rintro e w2 ⟨rfl, rfl⟩
    go_wp2
    go_ret
    exact ⟨by rw [HR.out]; rfl, rfl⟩
  · by_cases h2 : y < x
    · have HR : Hid (R = 1) := by show _ = _; rw [HO.out, if_neg h1, if_pos h2]
      go_enter Tryd.func133, Tryd.ntmps133
      go_wp2_with fail
      refine (KN.out x _).mono ?_
      rintro e w1 ⟨rfl, rfl⟩
      go_wp2_with fail
      refine (KN.out y _).mono ?_
      rintro e w2 ⟨rfl, rfl⟩
      go_wp2
      go_ret
      exact ⟨by rw [HR.out]; rfl, rfl⟩
    · have HR : Hid (R = 0) := by show _ = _; rw [HO.out, if_neg h1, if_neg h2]
      go_enter Tryd.func133, Tryd.ntmps133
      go_wp2_with fail
      refine (KN.out x _).mono ?_
      rintro e w1 ⟨rfl, rfl⟩
      go_wp2_with fail
      refine (KN.out y _).mono ?_
      rintro e w2 ⟨rfl, rfl⟩
      go_wp2
      go_ret
      exact ⟨by rw [HR.out]; rfl, rfl⟩
set_option maxRecDepth 10000 in
set_option maxHeartbeats 1000000 in
theorem cmpInt64_any (x y : Int) (w : World) : Calls Tryd.prog 134 #[.int .i64 x, .int .i64 y] w fun e w' => e = .returned (.int .i64 (ordI x y)) ∧ w' = w := by
  have KN : Hid (∀ (z : Int) (W : World), Calls Tryd.prog 179 #[.int .i64 z] W fun e w' => e = .returned (.bool false) ∧ w' = W) := fun z W => by
    go_enter Tryd.func179, Tryd.ntmps179
    go_wp2
    go_ret
    exact ⟨rfl, rfl⟩
  have HO : Hid (ordI x y = if x < y then -1 else if y < x then 1 else 0) := rfl
  generalize ordI x y = R at *
  by_cases h1 : x < y
  · have HR : Hid (R = -1) := by show _ = _; rw [HO.out, if_pos h1]
    go_enter Tryd.func134, Tryd.ntmps134
    go_wp2_with fail
    refine (KN.out x _).mono ?_
    rintro e w1 ⟨rfl, rfl⟩
    go_wp2_with fail
    refine (KN.out y _).mono ?_
    rintro e w2 ⟨rfl, rfl⟩
    go_wp2
    go_ret
    exact ⟨by rw [HR.out]; rfl, rfl⟩
  · by_cases h2 : y < x
    · have HR : Hid (R = 1) := by show _ = _; rw [HO.out, if_neg h1, if_pos h2]
      go_enter Tryd.func134, Tryd.ntmps134
      go_wp2_with fail
      refine (KN.out x _).mono ?_
      rintro e w1 ⟨rfl, rfl⟩
      go_wp2_with fail
      refine (KN.out y _).mono ?_
      rintro e w2 ⟨rfl, rfl⟩
      go_wp2
      go_ret
      exact ⟨by rw [HR.out]; rfl, rfl⟩
    · have HR : Hid (R = 0) := by show _ = _; rw [HO.out, if_neg h1, if_neg h2]
      go_enter Tryd.func134, Tryd.ntmps134
      go_wp2_with fail
      refine (KN.out x _).mono ?_
      rintro e w1 ⟨rfl, rfl⟩
      go_wp2_with fail
      refine (KN.out y _).mono ?_
      rintro e w2 ⟨rfl, rfl⟩
      go_wp2
      go_ret
      exact ⟨by rw [HR.out]; rfl, rfl⟩
set_option maxRecDepth 10000 in
set_option maxHeartbeats 2000000 in
theorem nearest_any (c d : Ck) (w : World) : Calls Tryd.prog 83 #[ckV c, ckV d] w fun e w' => e = .returned (.int .i64 (nearI c d)) ∧ Below w.heap.size w w' := by
  have HN : Hid (nearI c d = if ordI d.pa.size c.pa.size = 0 then ordI c.ma d.ma else ordI d.pa.size c.pa.size) := rfl
  generalize nearI c d = R at *
  obtain ⟨na, va, ho, al, pa, se, mo, pt, un, ma⟩ := c
  obtain ⟨na', va', ho', al', pa', se', mo', pt', un', ma'⟩ := d
  unfold ckV
  dsimp only at HN ⊢
  have K1 : Hid (∀ W, Calls Tryd.prog 133 #[.int .i64 (pa'.size : Int), .int .i64 (pa.size : Int)] W fun e w' => e = .returned (.int .i64 (ordI pa'.size pa.size)) ∧ w' = W) := fun W => cmpInt_any _ _ W
  have K2 : Hid (∀ W, Calls Tryd.prog 134 #[.int .i64 ma, .int .i64 ma'] W fun e w' => e = .returned (.int .i64 (ordI ma ma')) ∧ w' = W) := fun W => cmpInt64_any _ _ W
  generalize ordI pa'.size pa.size = o1 at *
  generalize ordI ma ma' = o2 at *
  have K3 : Hid (∀ (g : Nat) (W : World), W.cell? ⟨g, 0, none⟩ = some (.int .i64 o1) → W.cell? ⟨g, 1, none⟩ = some (.int .i64 o2) → Calls Tryd.prog 132 #[.slice (some ⟨g, 0, none⟩) 2 2] W fun e w' => e = .returned (.int .i64 R) ∧ w' = W) := fun g W a b => by rw [HN.out]; exact orInt_any o1 o2 g W a b
  clear HN
  obtain ⟨W0, hW⟩ : ∃ W0, W0 = (w.alloc (.cells #[.string na, .string va, .string ho, .bool al, .string pa, .bool se, .int .i64 mo, .string pt, .int .i64 un, .int .i64 ma] 90)).alloc (.cells #[.string na', .string va', .string ho', .bool al', .string pa', .bool se', .int .i64 mo', .string pt', .int .i64 un', .int .i64 ma'] 90) := ⟨_, rfl⟩
  have hW0 : Hid (W0 = (w.alloc (.cells #[.string na, .string va, .string ho, .bool al, .string pa, .bool se, .int .i64 mo, .string pt, .int .i64 un, .int .i64 ma] 90)).alloc (.cells #[.string na', .string va', .string ho', .bool al', .string pa', .bool se', .int .i64 mo', .string pt', .int .i64 un', .int .i64 ma'] 90)) := hW
  have HB : Hid (Below w.heap.size w W0) := by show Below _ _ _; rw [hW]; exact ((Below.refl _ _).alloc (Nat.le_refl _) _).alloc (by simp) _
  have c4 : W0.cell? ⟨w.heap.size, 4, none⟩ = some (.string pa) := by rw [hW]; simp
  have c9 : W0.cell? ⟨w.heap.size, 9, none⟩ = some (.int .i64 ma) := by rw [hW]; simp
  have d4 : W0.cell? ⟨w.heap.size + 1, 4, none⟩ = some (.string pa') := by rw [hW]; exact (World.cell?_alloc_at _ _ _ _ (by simp)).trans rfl
  have d9 : W0.cell? ⟨w.heap.size + 1, 9, none⟩ = some (.int .i64 ma') := by rw [hW]; exact (World.cell?_alloc_at _ _ _ _ (by simp)).trans rfl
  have z0 : w.heap.size + 1 < W0.heap.size := by rw [hW]; simp
  clear hW
  go_enter Tryd.func83, Tryd.ntmps83
  go_upto_region 1 with fail
  rw [← hW0.out]
  clear hW0
  generalize hbb : w.heap.size = b at *
  go_region_held3 (fun w' => w'.cell? ⟨b, 4, none⟩ = some (.string pa) ∧ w'.cell? ⟨b, 9, none⟩ = some (.int .i64 ma) ∧ w'.cell? ⟨b + 1, 4, none⟩ = some (.string pa') ∧ w'.cell? ⟨b + 1, 9, none⟩ = some (.int .i64 ma')) (go_keep)
    (first | (go_at_call 133; refine (K1.out _).mono ?_; rintro e w1 ⟨rfl, rfl⟩) | (go_at_call 134; refine (K2.out _).mono ?_; rintro e w2 ⟨rfl, rfl⟩) | (go_at_call 132; refine (K3.out _ _ (by simp) (by simp)).mono ?_; rintro e w3 ⟨rfl, rfl⟩))
  go_wp2
  go_ret
  refine ⟨rfl, ?_⟩
  rw [hbb]
  exact Below.drew (HB.out.alloc (by omega) _)
end Go.Proofs.YtimmoclemcnhnaaDoor

/- What goes along, one more of the jar at a time: plain facts for the program's JarFor. -/
namespace Go.Proofs.YtimmoclemcnhnaaDoor

theorem len_two (M : List Ck) (n : Nat) : (M.filter (fun c => c.pa.size == n + 1)).length + (M.filter (fun c => decide (c.pa.size ≤ n))).length = (M.filter (fun c => decide (c.pa.size ≤ n + 1))).length := by
  induction M with
  | nil => rfl
  | cons c M ih =>
    by_cases h1 : c.pa.size = n + 1
    · have e1 : (c.pa.size == n + 1) = true := by simpa using h1
      have e2 : decide (c.pa.size ≤ n) = false := decide_eq_false (by omega)
      have e3 : decide (c.pa.size ≤ n + 1) = true := decide_eq_true (by omega)
      simp only [List.filter_cons, e1, e2, e3, if_true, Bool.false_eq_true, if_false, List.length_cons]
      omega
    · have e1 : (c.pa.size == n + 1) = false := by simpa using h1
      by_cases h2 : c.pa.size ≤ n
      · have e2 : decide (c.pa.size ≤ n) = true := decide_eq_true h2
        have e3 : decide (c.pa.size ≤ n + 1) = true := decide_eq_true (by omega)
        simp only [List.filter_cons, e1, e2, e3, if_true, Bool.false_eq_true, if_false, List.length_cons]
        omega
      · have e2 : decide (c.pa.size ≤ n) = false := decide_eq_false h2
        have e3 : decide (c.pa.size ≤ n + 1) = false := decide_eq_false (by omega)
        simp only [List.filter_cons, e1, e2, e3, Bool.false_eq_true, if_false]
        exact ih
theorem byLen_few (M : List Ck) : ∀ n, (byLen M n).length ≤ (M.filter (fun c => decide (c.pa.size ≤ n))).length
  | 0 => Nat.zero_le _
  | n + 1 => by
    rw [byLen, List.length_append, ← len_two]
    have := byLen_few M n
    omega
theorem byLen_le (M : List Ck) (n : Nat) : (byLen M n).length ≤ M.length := Nat.le_trans (byLen_few M n) (List.length_filter_le _ _)
theorem jarB_rise {L : List Ck} (h : jarB L = true) (k : Nat) : ∀ m, m < k → k < L.length → (atC L m).ma < (atC L k).ma := by
  induction k with
  | zero => intro m hm; omega
  | succ k ih =>
    intro m hm hk
    have h1 := okJ_rise ((jarB_parts h).2 (k + 1) hk)
    by_cases e : m = k
    · subst e; exact h1
    · have := ih m (by omega) (by omega)
      omega
theorem mem_take {L : List Ck} {k : Nat} {d : Ck} (h : d ∈ L.take k) : ∃ m, m < k ∧ atC L m = d := by
  obtain ⟨m, hm, rfl⟩ := List.mem_iff_getElem.1 h
  rw [List.length_take] at hm
  refine ⟨m, by omega, ?_⟩
  have : m < L.length := by omega
  simp [atC, this]
theorem take_one {L : List Ck} {k : Nat} (hk : k < L.length) (P : Ck → Bool) : (L.take (k + 1)).filter P = (L.take k).filter P ++ (if P (atC L k) = true then [atC L k] else []) := by
  rw [List.take_succ_eq_append_getElem hk, List.filter_append]
  have e : atC L k = L[k] := by simp [atC, hk]
  rw [e, List.filter_cons, List.filter_nil]
theorem go_pass {L : List Ck} {k : Nat} (hk : k < L.length) {P : Ck → Bool} (hp : P (atC L k) = false) (n : Nat) : byLen ((L.take (k + 1)).filter P) n = byLen ((L.take k).filter P) n := by
  rw [take_one hk, hp, if_neg (by decide), List.append_nil]
theorem ordI_lt {x y : Int} (h : x < y) : ordI x y = -1 := by unfold ordI; rw [if_pos h]
theorem ordI_gt {x y : Int} (h : y < x) : ordI x y = 1 := by unfold ordI; rw [if_neg (by omega), if_pos h]
theorem ordI_self (x : Int) : ordI x x = 0 := by unfold ordI; rw [if_neg (by omega), if_neg (by omega)]
theorem byLen_in {L : List Ck} {P : Ck → Bool} {n i : Nat} (hi : i < (byLen (L.filter P) n).length) : ∃ m, m < L.length ∧ atC (byLen (L.filter P) n) i = atC L m := by
  have h1 : atC (byLen (L.filter P) n) i ∈ byLen (L.filter P) n := by simp [atC, hi]
  have h2 := (List.mem_filter.1 (byLen_mem n h1).2).1
  have h3 : atC (byLen (L.filter P) n) i ∈ L.take L.length := by rw [List.take_length]; exact h2
  obtain ⟨m, hm, e⟩ := mem_take h3
  exact ⟨m, hm, e.symm⟩
/-- one that goes: behind those that are as near, ahead of those that are not -/
theorem go_step {L : List Ck} (hj : jarB L = true) {k : Nat} (hk : k < L.length) {P : Ck → Bool} (hp : P (atC L k) = true) :
    ∃ H T, byLen ((L.take k).filter P) 40 = H ++ T ∧ byLen ((L.take (k + 1)).filter P) 40 = H ++ atC L k :: T ∧ (H ++ T).length ≤ 12 ∧ (∀ d, d ∈ H → nearI d (atC L k) ≤ 0) ∧ ∀ d, d ∈ T → 0 < nearI d (atC L k) := by
  obtain ⟨-, -, -, h4, -⟩ := ckB_parts (okJ_right ((jarB_parts hj).2 k hk))
  have h5 : (atC L k).pa.size ≤ 40 := by unfold pathB at h4; rw [decide_eq_true_eq] at h4; omega
  have h6 : 0 < (atC L k).pa.size := by unfold pathB at h4; rw [decide_eq_true_eq] at h4; omega
  have hs := byLen_split ((L.take k).filter P) (atC L k).pa.size h6 40 (by omega)
  refine ⟨hiL ((L.take k).filter P) (atC L k).pa.size 40, byLen ((L.take k).filter P) ((atC L k).pa.size - 1), hs, ?_, ?_, ?_, ?_⟩
  · rw [take_one hk, if_pos hp, byLen_snoc _ _ 40 h6 h5, List.append_assoc]
    rfl
  · rw [← hs]
    have a := byLen_le ((L.take k).filter P) 40
    have b := List.length_filter_le P (L.take k)
    have c := (jarB_parts hj).1
    rw [List.length_take] at b
    omega
  · intro d hd
    obtain ⟨h7, h8⟩ := hiL_mem 40 hd
    obtain ⟨m, hm, rfl⟩ := mem_take (List.mem_filter.1 h8).1
    have h9 := jarB_rise hj k m hm hk
    unfold nearI
    by_cases e : (atC L k).pa.size = (atC L m).pa.size
    · rw [e, ordI_self, if_pos rfl, ordI_lt h9]; decide
    · have h10 : (((atC L k).pa.size : Nat) : Int) < ((atC L m).pa.size : Nat) := by omega
      rw [ordI_lt h10, if_neg (by decide)]; decide
  · intro d hd
    obtain ⟨h7, -⟩ := byLen_mem _ hd
    have h10 : ((d.pa.size : Nat) : Int) < ((atC L k).pa.size : Nat) := by omega
    unfold nearI
    rw [ordI_gt h10, if_neg (by decide)]; decide
end Go.Proofs.YtimmoclemcnhnaaDoor

/- Where an owned row lies. -/
namespace Go.Proofs.YtimmoclemcnhnaaDoor
open Go.RowKit
theorem own_base {w : World} {B n sz : Nat} {e : TypeId} {v : Value} {xs : List Value} (h : w.ownsRow B e sz v n xs) : ∀ j, v.ownBlock = some j → B ≤ j := by
  intro j hj
  obtain ⟨_, ⟨rfl, _⟩ | ⟨g, cap, cur, rfl, hB, _⟩⟩ := h
  · cases hj
  · have : g = j := Option.some.inj hj
    omega
end Go.Proofs.YtimmoclemcnhnaaDoor

/- append to a slice whose capacity is cut to its length: a new row. -/
namespace Go.Proofs.YtimmoclemcnhnaaDoor
open Go.RowKit

theorem run_append_cut {P : Program} (w : World) (base : Nat) (t ty e : TypeId) (i : TypeInfo) (z : Value) (size bytes : Nat) (ht : P.underlying t = some (.slice e)) (hi : P.info? e = some i) (hz : i.zero = some z)
    (hsize : i.size = size) (hby : i.bytes = bytes) (hzs : z.cells.size = size) (b : Addr) (n : Nat) (olds : List Value) (hlo : olds.length = n * size) (holds : ∀ j u, olds[j]? = some u → w.cell? (b.add j) = some u)
    (a : Addr) (m c : Nat) (news : List Value) (hl : news.length = m * size) (hnews : ∀ j u, news[j]? = some u → w.cell? (a.add j) = some u) (hm : 0 < m)
    (h63 : n + m ≤ maxLen) (hbytes : (n + m) * bytes ≤ 140737488355328) (hbase : base ≤ w.heap.size) :
    ∃ cap w', (Builtin.append_ #[t, t] ty #[.slice (some b) n n, .slice (some a) m c]).run P w = .ok (.slice (some ⟨w.heap.size, 0, none⟩) (n + m) cap) w' ∧ w'.ownsRow base e size (.slice (some ⟨w.heap.size, 0, none⟩) (n + m) cap) (n + m) (olds ++ news) ∧ w.grownBy w' none := by
  subst hsize
  subst hby
  have hlen : (olds ++ news).length = (n + m) * i.size := by rw [List.length_append, hlo, hl, Nat.add_mul]
  have hsmall : n + m ≤ 9223372036854775807 := by simp only [maxLen] at h63; omega
  have hr := run_append_grow (P := P) w t ty e i z ht hi hz b n n olds hlo holds a m c news hl hnews (by omega) (by omega) (growslice_fits (by omega) hbytes)
  have hge := grownCap_ge w (n + m) n e
  have hcm : grownCap w (n + m) n e ≤ maxLen := grownCap_le_maxLen w (n + m) n e h63
  refine ⟨_, _, hr, ⟨hlen, .inr ⟨w.heap.size, _, _, rfl, hbase, heap_alloc_new w.drew _, hge, hcm, ?_, ?_⟩⟩, ⟨rfl, rfl, rfl, by simp, fun k hk _ => by first | exact heap_alloc_old w.drew _ k hk | exact heap_alloc_old w.drew _ hk⟩⟩
  · simp only [Array.size_append, List.size_toArray, size_zeroCells, hzs, hlo, hl, ← Nat.add_mul]
    congr 1
    omega
  · simp only [Array.toList_append, List.append_assoc]
    rw [← List.append_assoc, ← hlen]
    exact List.take_left
theorem wp_append_cut {P : Program} {w : World} {o : Oper} {a : Act} {K : Act → World → Prop} {Q : Exit → Act → World → Prop} (s x : Operand) (t : TypeId) (ho : o.op = .call { callee := .builtin .append, args := #[s, x], argTypes := #[t, t] })
    (base : Nat) (e : TypeId) (i : TypeInfo) (z : Value) (size bytes : Nat) (ht : P.underlying t = some (.slice e)) (hi : P.info? e = some i) (hz : i.zero = some z) (hsize : i.size = size) (hby : i.bytes = bytes) (hzs : z.cells.size = size)
    (b : Addr) (n : Nat) (hs : a.eval s = .slice (some b) n n) (olds : List Value) (hlo : olds.length = n * size) (holds : ∀ j u, olds[j]? = some u → w.cell? (b.add j) = some u)
    (ad : Addr) (m c : Nat) (news : List Value) (hx : a.eval x = .slice (some ad) m c) (hl : news.length = m * size) (hnews : ∀ j u, news[j]? = some u → w.cell? (ad.add j) = some u) (hm : 0 < m)
    (h63 : n + m ≤ maxLen) (hbytes : (n + m) * bytes ≤ 140737488355328) (hbase : base ≤ w.heap.size)
    (h : ∀ cap w', w'.ownsRow base e size (.slice (some ⟨w.heap.size, 0, none⟩) (n + m) cap) (n + m) (olds ++ news) → w.grownBy w' none → K (a.put o.dst (.slice (some ⟨w.heap.size, 0, none⟩) (n + m) cap)) w') : o.wp P a w K Q := by
  obtain ⟨cap, w', hr, h2, h3⟩ := run_append_cut (P := P) w base t o.type e i z size bytes ht hi hz hsize hby hzs b n olds hlo holds ad m c news hl hnews hm h63 hbytes hbase
  unfold Oper.wp execOp
  simp only [ho, resolve, invoke, builtin, Sem.run_bind, Sem.run_pure, Result.andThen_ok, List.map_toArray, List.map_cons, List.map_nil, hs, hx, hr]
  exact h cap w' h2 h3
/- append of nil to what is the call's own: nothing changes. -/
theorem wp_append_nil {P : Program} {w : World} {o : Oper} {a : Act} {K : Act → World → Prop} {Q : Exit → Act → World → Prop} (s x : Operand) (t : TypeId) (ho : o.op = .call { callee := .builtin .append, args := #[s, x], argTypes := #[t, t] })
    (base : Nat) (e : TypeId) (i : TypeInfo) (size : Nat) (ht : P.underlying t = some (.slice e)) (hi : P.info? e = some i)
    (v : Value) (n : Nat) (xs : List Value) (hs : a.eval s = v) (hown : w.ownsRow base e size v n xs) (hx : a.eval x = .slice none 0 0)
    (h : K (a.put o.dst v) w) : o.wp P a w K Q := by
  have hr := run_append_owned_none (P := P) (w := w) base t o.type e i size ht hi v n xs hown
  unfold Oper.wp execOp
  simp only [ho, resolve, invoke, builtin, Sem.run_bind, Sem.run_pure, Result.andThen_ok, List.map_toArray, List.map_cons, List.map_nil, hs, hx, hr]
  exact h
end Go.Proofs.YtimmoclemcnhnaaDoor

/- The walk of the program's inOrder, at cookies. Written by implinorder.py. -/
namespace Go.Proofs.YtimmoclemcnhnaaDoor
open Go.RowKit

theorem ckCells_app (A B : List Ck) : ckCells (A ++ B) = ckCells A ++ ckCells B := by
  induction A with
  | nil => rfl
  | cons a A ih => simp only [List.cons_append, ckCells, ih, List.append_assoc]
theorem one_ckCells : ∀ M : List Ck, ∀ v ∈ ckCells M, v.oneCell' = true
  | [], v, h => by cases h
  | c :: M, v, h => by
    rw [ckCells, List.mem_append] at h
    rcases h with h | h
    · exact one_ten c v h
    · exact one_ckCells M v h
theorem ckCells_part {w : World} {g : Nat} {L : List Ck} (hc : ∀ j, j < L.length → ∀ o, o < 10 → w.cell? ⟨g, j * 10 + o, none⟩ = some (ckC (atC L j) o)) (a : Nat) (M : List Ck) (hM : ∀ j, j < M.length → atC M j = atC L (a + j) ∧ a + j < L.length) :
    ∀ j u, (ckCells M)[j]? = some u → w.cell? ((⟨g, a * 10, none⟩ : Addr).add j) = some u := by
  intro j u h
  have hlt : j < M.length * 10 := by
    have := (List.getElem?_eq_some_iff.1 h).1
    rw [ckCells_len] at this; exact this
  have e1 : (⟨g, a * 10, none⟩ : Addr).add j = ⟨g, a * 10 + j, none⟩ := by unfold Addr.add; split <;> simp_all
  obtain ⟨h1, h2⟩ := hM (j / 10) (by omega)
  have h3 := ckCells_at M (j / 10) (by omega) (j % 10) (Nat.mod_lt _ (by decide))
  rw [show j / 10 * 10 + j % 10 = j by omega, h] at h3
  rw [e1, show a * 10 + j = (a + j / 10) * 10 + j % 10 by omega, hc _ h2 _ (Nat.mod_lt _ (by decide)), ← h1]
  exact h3.symm
theorem atC_left {H T : List Ck} {j : Nat} (h : j < H.length) : atC (H ++ T) j = atC H j := by simp [atC, List.getD_eq_getElem?_getD, List.getElem?_append_left h]
theorem atC_right (H T : List Ck) (j : Nat) : atC (H ++ T) (H.length + j) = atC T j := by simp [atC, List.getD_eq_getElem?_getD, List.getElem?_append_right]
theorem atC_in {L : List Ck} {j : Nat} (h : j < L.length) : atC L j ∈ L := by simp [atC, h]
set_option maxRecDepth 10000 in
set_option maxHeartbeats 16000000 in
theorem inOrder_any (H T : List Ck) (x : Ck) (v : Value) (B : Nat) (w : World) (hv : (H ++ T).length = 0 → v = .slice none 0 0) (hs : SliceC w B v (H ++ T)) (hn : (H ++ T).length ≤ 100) (hH : ∀ d, d ∈ H → nearI d x ≤ 0) (hT : ∀ d, d ∈ T → 0 < nearI d x) :
    Calls Tryd.prog 82 #[v, ckV x, .func (.func 83) #[] #[]] w fun e w' => ∃ v', e = .returned v' ∧ SliceC w' w.heap.size v' (H ++ x :: T) ∧ Below w.heap.size w w' := by
  have KN : Hid (∀ j W, Calls Tryd.prog 83 #[ckV (atC (H ++ T) j), ckV x] W fun e w' => e = .returned (.int .i64 (nearI (atC (H ++ T) j) x)) ∧ Below W.heap.size W w') := fun j W => nearest_any (atC (H ++ T) j) x W
  obtain ⟨i0, hi, hy0, hy1, hy2⟩ := info_parts infoCookie
  have HLo : Hid (∀ j, j < H.length → nearI (atC (H ++ T) j) x ≤ 0) := fun j hj => by rw [atC_left hj]; exact hH _ (atC_in hj)
  have HHi : Hid (∀ j, H.length ≤ j → j < (H ++ T).length → 0 < nearI (atC (H ++ T) j) x) := fun j h1 h2 => by
    obtain ⟨i, rfl⟩ : ∃ i, j = H.length + i := ⟨j - H.length, by omega⟩
    rw [atC_right]
    exact hT _ (atC_in (by rw [List.length_append] at h2; omega))
  have HOP : Hid (∀ (W : World) (B : Nat) (v : Value), w.heap.size ≤ B → W.ownsRow B 90 10 v (H.length + 1 + ((H ++ T).length - H.length)) (ckCells H ++ (ckVals x ++ ckCells T)) → SliceC W w.heap.size v (H ++ x :: T)) := fun W B v hb h => by
    have e : ckCells (H ++ x :: T) = ckCells H ++ (ckVals x ++ ckCells T) := by rw [ckCells_app]; rfl
    refine SliceC.mono (sliceC_of_own (t := 90) ?_) hb
    rw [e, List.length_append, List.length_cons, show H.length + (T.length + 1) = H.length + 1 + ((H ++ T).length - H.length) by rw [List.length_append]; omega]
    exact h
  have HB0 : Hid (∀ o, Below w.heap.size w (w.alloc o)) := fun o => (Below.refl _ _).alloc (Nat.le_refl _) _
  obtain ⟨W0, hW⟩ : ∃ W0, W0 = w.alloc (.cells #[.string x.na, .string x.va, .string x.ho, .bool x.al, .string x.pa, .bool x.se, .int .i64 x.mo, .string x.pt, .int .i64 x.un, .int .i64 x.ma] 90) := ⟨_, rfl⟩
  have hW0 : Hid (W0 = w.alloc (.cells #[.string x.na, .string x.va, .string x.ho, .bool x.al, .string x.pa, .bool x.se, .int .i64 x.mo, .string x.pt, .int .i64 x.un, .int .i64 x.ma] 90)) := hW
  have B0 : Hid (Below w.heap.size w W0) := by show Below _ _ _; rw [hW]; exact (Below.refl _ _).alloc (Nat.le_refl _) _
  have s0 : W0.cell? ⟨w.heap.size, 0, none⟩ = some (.string x.na) := by rw [hW]; simp
  have s1 : W0.cell? ⟨w.heap.size, 1, none⟩ = some (.string x.va) := by rw [hW]; simp
  have s2 : W0.cell? ⟨w.heap.size, 2, none⟩ = some (.string x.ho) := by rw [hW]; simp
  have s3 : W0.cell? ⟨w.heap.size, 3, none⟩ = some (.bool x.al) := by rw [hW]; simp
  have s4 : W0.cell? ⟨w.heap.size, 4, none⟩ = some (.string x.pa) := by rw [hW]; simp
  have s5 : W0.cell? ⟨w.heap.size, 5, none⟩ = some (.bool x.se) := by rw [hW]; simp
  have s6 : W0.cell? ⟨w.heap.size, 6, none⟩ = some (.int .i64 x.mo) := by rw [hW]; simp
  have s7 : W0.cell? ⟨w.heap.size, 7, none⟩ = some (.string x.pt) := by rw [hW]; simp
  have s8 : W0.cell? ⟨w.heap.size, 8, none⟩ = some (.int .i64 x.un) := by rw [hW]; simp
  have s9 : W0.cell? ⟨w.heap.size, 9, none⟩ = some (.int .i64 x.ma) := by rw [hW]; simp
  have z0 : w.heap.size < W0.heap.size := by rw [hW]; simp
  clear hW HB0
  by_cases hM : (H ++ T).length = 0
  · obtain rfl := hv hM
    obtain ⟨rfl, rfl⟩ : H = [] ∧ T = [] := by
      rw [List.length_append] at hM
      exact ⟨List.length_eq_zero_iff.1 (by omega), List.length_eq_zero_iff.1 (by omega)⟩
    have HOP2 : Hid (∀ (W : World) (B : Nat) (v : Value), w.heap.size ≤ B → W.ownsRow B 90 10 v 1 (ckVals x) → SliceC W w.heap.size v ([] ++ x :: [])) := fun W B v hb h => HOP.out W B v hb (by
      have e : ckCells [] = [] := rfl
      simpa [e] using h)
    clear hs hv hH hT HOP HLo HHi KN hM
    obtain ⟨na, va, ho, al, pa, se, mo, pt, un, ma⟩ := x
    unfold ckV at *
    dsimp only at *
    go_enter Tryd.func82, Tryd.ntmps82
    go_upto_region 1 with fail
    rw [← hW0.out]
    clear hW0
    go_wp2
    go_loopw [7] (fun i wr => i = .int .i64 0 ∧ Hid (Below W0.heap.size W0 wr)) (fun _ _ => 0)
    case atStart => exact ⟨rfl, Below.refl _ _⟩
    case round =>
      obtain ⟨rfl, HB⟩ := hrel
      have BR : Hid (Below w.heap.size w wr) := B0.out.trans (HB.out.mono B0.out.size)
      have BC : Hid (Below w.heap.size w wr.drew) := BR.out.drew
      have hxc : w.heap.size < wr.drew.heap.size := Nat.lt_of_lt_of_le z0 HB.out.size
      have xc0 : wr.drew.cell? ⟨w.heap.size, 0, none⟩ = some (.string na) := ((bcell HB.out).1 _ _ z0).trans s0
      have xc1 : wr.drew.cell? ⟨w.heap.size, 1, none⟩ = some (.string va) := ((bcell HB.out).1 _ _ z0).trans s1
      have xc2 : wr.drew.cell? ⟨w.heap.size, 2, none⟩ = some (.string ho) := ((bcell HB.out).1 _ _ z0).trans s2
      have xc3 : wr.drew.cell? ⟨w.heap.size, 3, none⟩ = some (.bool al) := ((bcell HB.out).1 _ _ z0).trans s3
      have xc4 : wr.drew.cell? ⟨w.heap.size, 4, none⟩ = some (.string pa) := ((bcell HB.out).1 _ _ z0).trans s4
      have xc5 : wr.drew.cell? ⟨w.heap.size, 5, none⟩ = some (.bool se) := ((bcell HB.out).1 _ _ z0).trans s5
      have xc6 : wr.drew.cell? ⟨w.heap.size, 6, none⟩ = some (.int .i64 mo) := ((bcell HB.out).1 _ _ z0).trans s6
      have xc7 : wr.drew.cell? ⟨w.heap.size, 7, none⟩ = some (.string pt) := ((bcell HB.out).1 _ _ z0).trans s7
      have xc8 : wr.drew.cell? ⟨w.heap.size, 8, none⟩ = some (.int .i64 un) := ((bcell HB.out).1 _ _ z0).trans s8
      have xc9 : wr.drew.cell? ⟨w.heap.size, 9, none⟩ = some (.int .i64 ma) := ((bcell HB.out).1 _ _ z0).trans s9
      go_upto_region 2 with fail
      refine wp_region_held_drew (S := (fun w' => w'.cell? ⟨w.heap.size, 0, none⟩ = some (.string na) ∧ w'.cell? ⟨w.heap.size, 1, none⟩ = some (.string va) ∧ w'.cell? ⟨w.heap.size, 2, none⟩ = some (.string ho) ∧ w'.cell? ⟨w.heap.size, 3, none⟩ = some (.bool al) ∧ w'.cell? ⟨w.heap.size, 4, none⟩ = some (.string pa) ∧ w'.cell? ⟨w.heap.size, 5, none⟩ = some (.bool se) ∧ w'.cell? ⟨w.heap.size, 6, none⟩ = some (.int .i64 mo) ∧ w'.cell? ⟨w.heap.size, 7, none⟩ = some (.string pt) ∧ w'.cell? ⟨w.heap.size, 8, none⟩ = some (.int .i64 un) ∧ w'.cell? ⟨w.heap.size, 9, none⟩ = some (.int .i64 ma))) (by kernel_rfl) ?_ (fun hH0 => ?_)
      · (try dsimp only)
        go_keep
      refine wpAnyH_take (i := 0) (oi := { dst := some 10, op := Op.move (Operand.tmp 7), type := 3, pos := "l06_jar.go:259", after := #[], guard := none }) (v := ?va0) rfl (by kernel_rfl) (by kernel_rfl) (by kernel_rfl) (fun _ _ _ h => h) (Or.inl ⟨by rfl, ?hya0⟩) (by assumption) ?resta0
      case hya0 =>
        intro w hSw
        (try dsimp only at hSw)
        go_simp
        try with_reducible rfl
      try simp only [Act.put, List.setIfInBounds_toArray, List.set_cons_zero, List.set_cons_succ]
      refine wpAnyH_take (i := 1) (oi := { dst := some 11, op := Op.binOp BinOp.gtr 3 (Operand.tmp 10) (Operand.const (Value.int IntKind.i64 0)) 3, type := 4, pos := "l06_jar.go:259", after := #[{ on := 0, ground := Ground.data }], guard := none }) (v := ?va1) rfl (by kernel_rfl) (by kernel_rfl) (by kernel_rfl) (fun _ _ _ h => h) (Or.inl ⟨by rfl, ?hya1⟩) (by assumption) ?resta1
      case hya1 =>
        intro w hSw
        (try dsimp only at hSw)
        go_simp
        try with_reducible rfl
      try simp only [Act.put, List.setIfInBounds_toArray, List.set_cons_zero, List.set_cons_succ]
      refine wpAnyH_take (i := 2) (oi := { dst := some 12, op := Op.move (Operand.tmp 11), type := 4, pos := "l06_jar.go:259", after := #[{ on := 1, ground := Ground.data }], guard := none }) (v := ?va2) rfl (by kernel_rfl) (by kernel_rfl) (by kernel_rfl) (fun _ _ _ h => h) (Or.inl ⟨by rfl, ?hya2⟩) (by assumption) ?resta2
      case hya2 =>
        intro w hSw
        (try dsimp only at hSw)
        go_simp
        try with_reducible rfl
      try simp only [Act.put, List.setIfInBounds_toArray, List.set_cons_zero, List.set_cons_succ]
      refine wpAnyH_take (i := 3) (oi := { dst := some 13, op := Op.move (Operand.tmp 2), type := 97, pos := "l06_jar.go:259", after := #[{ on := 2, ground := Ground.guard }], guard := some (2, true) }) (v := undef) rfl (by kernel_rfl) (by kernel_rfl) (by kernel_rfl) (fun _ _ _ h => h) (Or.inr ⟨by rfl, rfl⟩) (by assumption) ?_
      try simp only [Act.put, List.setIfInBounds_toArray, List.set_cons_zero, List.set_cons_succ]
      refine wpAnyH_take (i := 4) (oi := { dst := some 14, op := Op.move (Operand.tmp 0), type := 43, pos := "l06_jar.go:259", after := #[{ on := 2, ground := Ground.guard }], guard := some (2, true) }) (v := undef) rfl (by kernel_rfl) (by kernel_rfl) (by kernel_rfl) (fun _ _ _ h => h) (Or.inr ⟨by rfl, rfl⟩) (by assumption) ?_
      try simp only [Act.put, List.setIfInBounds_toArray, List.set_cons_zero, List.set_cons_succ]
      refine wpAnyH_take (i := 5) (oi := { dst := some 15, op := Op.move (Operand.tmp 7), type := 3, pos := "l06_jar.go:259", after := #[{ on := 2, ground := Ground.guard }], guard := some (2, true) }) (v := undef) rfl (by kernel_rfl) (by kernel_rfl) (by kernel_rfl) (fun _ _ _ h => h) (Or.inr ⟨by rfl, rfl⟩) (by assumption) ?_
      try simp only [Act.put, List.setIfInBounds_toArray, List.set_cons_zero, List.set_cons_succ]
      refine wpAnyH_take (i := 6) (oi := { dst := some 16, op := Op.binOp BinOp.sub 3 (Operand.tmp 15) (Operand.const (Value.int IntKind.i64 1)) 3, type := 3, pos := "l06_jar.go:259", after := #[{ on := 5, ground := Ground.data }, { on := 2, ground := Ground.guard }], guard := some (2, true) }) (v := undef) rfl (by kernel_rfl) (by kernel_rfl) (by kernel_rfl) (fun _ _ _ h => h) (Or.inr ⟨by rfl, rfl⟩) (by assumption) ?_
      try simp only [Act.put, List.setIfInBounds_toArray, List.set_cons_zero, List.set_cons_succ]
      refine wpAnyH_take (i := 7) (oi := { dst := some 17, op := Op.indexAddr 43 (Operand.tmp 14) (Operand.tmp 16), type := 0, pos := "l06_jar.go:259", after := #[{ on := 4, ground := Ground.data }, { on := 6, ground := Ground.data }, { on := 2, ground := Ground.guard }], guard := some (2, true) }) (v := undef) rfl (by kernel_rfl) (by kernel_rfl) (by kernel_rfl) (fun _ _ _ h => h) (Or.inr ⟨by rfl, rfl⟩) (by assumption) ?_
      try simp only [Act.put, List.setIfInBounds_toArray, List.set_cons_zero, List.set_cons_succ]
      refine wpAnyH_take (i := 8) (oi := { dst := some 18, op := Op.load 90 (Operand.tmp 17), type := 90, pos := "l06_jar.go:259", after := #[{ on := 7, ground := Ground.data }, { on := 2, ground := Ground.guard }], guard := some (2, true) }) (v := undef) rfl (by kernel_rfl) (by kernel_rfl) (by kernel_rfl) (fun _ _ _ h => h) (Or.inr ⟨by rfl, rfl⟩) (by assumption) ?_
      try simp only [Act.put, List.setIfInBounds_toArray, List.set_cons_zero, List.set_cons_succ]
      refine wpAnyH_take (i := 9) (oi := { dst := some 19, op := Op.load 90 (Operand.tmp 4), type := 90, pos := "l06_jar.go:259", after := #[{ on := 2, ground := Ground.guard }], guard := some (2, true) }) (v := undef) rfl (by kernel_rfl) (by kernel_rfl) (by kernel_rfl) (fun _ _ _ h => h) (Or.inr ⟨by rfl, rfl⟩) (by assumption) ?_
      try simp only [Act.put, List.setIfInBounds_toArray, List.set_cons_zero, List.set_cons_succ]
      refine wpAnyH_take (i := 10) (oi := { dst := some 20, op := Op.call { callee := Callee.value (Operand.tmp 13), args := #[Operand.tmp 18, Operand.tmp 19], argTypes := #[90, 90] }, type := 3, pos := "l06_jar.go:259", after := #[{ on := 3, ground := Ground.data }, { on := 8, ground := Ground.data }, { on := 9, ground := Ground.data }, { on := 2, ground := Ground.chain }, { on := 2, ground := Ground.guard }], guard := some (2, true) }) (v := undef) rfl (by kernel_rfl) (by kernel_rfl) (by kernel_rfl) (fun _ _ _ h => h) (Or.inr ⟨by rfl, rfl⟩) (by assumption) ?_
      try simp only [Act.put, List.setIfInBounds_toArray, List.set_cons_zero, List.set_cons_succ]
      refine wpAnyH_take (i := 11) (oi := { dst := some 21, op := Op.binOp BinOp.gtr 3 (Operand.tmp 20) (Operand.const (Value.int IntKind.i64 0)) 3, type := 4, pos := "l06_jar.go:259", after := #[{ on := 10, ground := Ground.data }, { on := 2, ground := Ground.guard }], guard := some (2, true) }) (v := undef) rfl (by kernel_rfl) (by kernel_rfl) (by kernel_rfl) (fun _ _ _ h => h) (Or.inr ⟨by rfl, rfl⟩) (by assumption) ?_
      try simp only [Act.put, List.setIfInBounds_toArray, List.set_cons_zero, List.set_cons_succ]
      refine wpAnyH_take (i := 12) (oi := { dst := some 22, op := Op.pick (Operand.tmp 12) (Operand.tmp 21) (Operand.const (Value.bool false)), type := 4, pos := "l06_jar.go:259", after := #[{ on := 2, ground := Ground.data }, { on := 11, ground := Ground.data }], guard := none }) (v := ?va12) rfl (by kernel_rfl) (by kernel_rfl) (by kernel_rfl) (fun _ _ _ h => h) (Or.inl ⟨by rfl, ?hya12⟩) (by assumption) ?resta12
      case hya12 =>
        intro w hSw
        (try dsimp only at hSw)
        go_simp
        try with_reducible rfl
      try simp only [Act.put, List.setIfInBounds_toArray, List.set_cons_zero, List.set_cons_succ]
      refine wpAnyH_done (by kernel_rfl) ?_ _
      generalize hwc : wr.drew = Wc at *
      clear hwc
      go_upto_region 4 with fail
      refine wp_region_held_drew (S := (fun w' => w'.cell? ⟨w.heap.size, 0, none⟩ = some (.string na) ∧ w'.cell? ⟨w.heap.size, 1, none⟩ = some (.string va) ∧ w'.cell? ⟨w.heap.size, 2, none⟩ = some (.string ho) ∧ w'.cell? ⟨w.heap.size, 3, none⟩ = some (.bool al) ∧ w'.cell? ⟨w.heap.size, 4, none⟩ = some (.string pa) ∧ w'.cell? ⟨w.heap.size, 5, none⟩ = some (.bool se) ∧ w'.cell? ⟨w.heap.size, 6, none⟩ = some (.int .i64 mo) ∧ w'.cell? ⟨w.heap.size, 7, none⟩ = some (.string pt) ∧ w'.cell? ⟨w.heap.size, 8, none⟩ = some (.int .i64 un) ∧ w'.cell? ⟨w.heap.size, 9, none⟩ = some (.int .i64 ma))) (by kernel_rfl) ?_ (fun hH0 => ?_)
      · (try dsimp only)
        go_keep
      refine wpAnyH_take (i := 0) (oi := { dst := some 25, op := Op.move (Operand.tmp 0), type := 43, pos := "l06_jar.go:264", after := #[], guard := none }) (v := ?vb0) rfl (by kernel_rfl) (by kernel_rfl) (by kernel_rfl) (fun _ _ _ h => h) (Or.inl ⟨by rfl, ?hyb0⟩) (by assumption) ?restb0
      case hyb0 =>
        intro w hSw
        (try dsimp only at hSw)
        go_simp
        try with_reducible rfl
      try simp only [Act.put, List.setIfInBounds_toArray, List.set_cons_zero, List.set_cons_succ]
      refine wpAnyH_take (i := 1) (oi := { dst := some 26, op := Op.move (Operand.tmp 7), type := 3, pos := "l06_jar.go:264", after := #[], guard := none }) (v := ?vb1) rfl (by kernel_rfl) (by kernel_rfl) (by kernel_rfl) (fun _ _ _ h => h) (Or.inl ⟨by rfl, ?hyb1⟩) (by assumption) ?restb1
      case hyb1 =>
        intro w hSw
        (try dsimp only at hSw)
        go_simp
        try with_reducible rfl
      try simp only [Act.put, List.setIfInBounds_toArray, List.set_cons_zero, List.set_cons_succ]
      refine wpAnyH_take (i := 2) (oi := { dst := some 27, op := Op.move (Operand.tmp 7), type := 3, pos := "l06_jar.go:264", after := #[], guard := none }) (v := ?vb2) rfl (by kernel_rfl) (by kernel_rfl) (by kernel_rfl) (fun _ _ _ h => h) (Or.inl ⟨by rfl, ?hyb2⟩) (by assumption) ?restb2
      case hyb2 =>
        intro w hSw
        (try dsimp only at hSw)
        go_simp
        try with_reducible rfl
      try simp only [Act.put, List.setIfInBounds_toArray, List.set_cons_zero, List.set_cons_succ]
      refine wpAnyH_take (i := 3) (oi := { dst := some 28, op := Op.slice 43 (Operand.tmp 25) none (some (Operand.tmp 26)) (some (Operand.tmp 27)), type := 43, pos := "l06_jar.go:264", after := #[{ on := 0, ground := Ground.data }, { on := 1, ground := Ground.data }, { on := 2, ground := Ground.data }], guard := none }) (v := ?vb3) rfl (by kernel_rfl) (by kernel_rfl) (by kernel_rfl) (fun _ _ _ h => h) (Or.inl ⟨by rfl, ?hyb3⟩) (by assumption) ?restb3
      case hyb3 =>
        intro w hSw
        (try dsimp only at hSw)
        go_simp
        try with_reducible rfl
      try simp only [Act.put, List.setIfInBounds_toArray, List.set_cons_zero, List.set_cons_succ]
      refine wpAnyH_take (i := 4) (oi := { dst := some 29, op := Op.load 90 (Operand.tmp 4), type := 90, pos := "l06_jar.go:264", after := #[], guard := none }) (v := ?vb4) rfl (by kernel_rfl) (by kernel_rfl) (by kernel_rfl) (fun _ _ _ h => h) (Or.inl ⟨by rfl, ?hyb4⟩) (by assumption) ?restb4
      case hyb4 =>
        intro w hSw
        (try dsimp only at hSw)
        go_simp
        try with_reducible rfl
      try simp only [Act.put, List.setIfInBounds_toArray, List.set_cons_zero, List.set_cons_succ]
      refine wpAnyH_take (i := 7) (oi := { dst := some 32, op := Op.move (Operand.tmp 0), type := 43, pos := "l06_jar.go:264", after := #[], guard := none }) (v := ?vb7) rfl (by kernel_rfl) (by kernel_rfl) (by kernel_rfl) (fun _ _ _ h => h) (Or.inl ⟨by rfl, ?hyb7⟩) (by assumption) ?restb7
      case hyb7 =>
        intro w hSw
        (try dsimp only at hSw)
        go_simp
        try with_reducible rfl
      try simp only [Act.put, List.setIfInBounds_toArray, List.set_cons_zero, List.set_cons_succ]
      refine wpAnyH_take (i := 8) (oi := { dst := some 33, op := Op.move (Operand.tmp 7), type := 3, pos := "l06_jar.go:264", after := #[], guard := none }) (v := ?vb8) rfl (by kernel_rfl) (by kernel_rfl) (by kernel_rfl) (fun _ _ _ h => h) (Or.inl ⟨by rfl, ?hyb8⟩) (by assumption) ?restb8
      case hyb8 =>
        intro w hSw
        (try dsimp only at hSw)
        go_simp
        try with_reducible rfl
      try simp only [Act.put, List.setIfInBounds_toArray, List.set_cons_zero, List.set_cons_succ]
      refine wpAnyH_take (i := 9) (oi := { dst := some 34, op := Op.slice 43 (Operand.tmp 32) (some (Operand.tmp 33)) none none, type := 43, pos := "l06_jar.go:264", after := #[{ on := 7, ground := Ground.data }, { on := 8, ground := Ground.data }], guard := none }) (v := ?vb9) rfl (by kernel_rfl) (by kernel_rfl) (by kernel_rfl) (fun _ _ _ h => h) (Or.inl ⟨by rfl, ?hyb9⟩) (by assumption) ?restb9
      case hyb9 =>
        intro w hSw
        (try dsimp only at hSw)
        go_simp
        try with_reducible rfl
      try simp only [Act.put, List.setIfInBounds_toArray, List.set_cons_zero, List.set_cons_succ]
      refine wpAnyH_ready (rs := [5]) (by kernel_rfl) (by simp) ?_
      refine AllReadyH.cons (o := { dst := some 30, op := Op.buildSlice 43 1 #[(0, Operand.tmp 29)], type := 43, pos := "l06_jar.go:264", after := #[{ on := 4, ground := Ground.data }], guard := none }) rfl (fun K hK => ?_) AllReadyH.nil
      go_simp
      (skip)
      try (go_wp2_with fail)
      refine hK.out _ _ ?_ (fun hH1 => ?_)
      · (try dsimp only)
        first | go_keep | (refine ⟨?_, ?_, ?_, ?_, ?_, ?_, ?_, ?_, ?_, ?_⟩ <;> assumption)
      clear hK K hH0
      try simp only [Act.put, List.setIfInBounds_toArray, List.set_cons_zero, List.set_cons_succ]
      refine wpAnyH_ready (rs := [6]) (by kernel_rfl) (by simp) ?_
      refine AllReadyH.cons (o := { dst := some 31, op := Op.call { callee := Callee.builtin Builtin.append, args := #[Operand.tmp 28, Operand.tmp 30], argTypes := #[43, 43] }, type := 43, pos := "l06_jar.go:264", after := #[{ on := 3, ground := Ground.data }, { on := 5, ground := Ground.data }], guard := none }) rfl (fun K hK => ?_) AllReadyH.nil
      (rw [if_pos (by rfl)]; refine wp_append_own _ _ _ 43 rfl Wc.heap.size 90 i0 (.agg #[.string ⟨#[]⟩, .string ⟨#[]⟩, .string ⟨#[]⟩, .bool false, .string ⟨#[]⟩, .bool false, .int .i64 0, .string ⟨#[]⟩, .int .i64 0, .int .i64 0]) 10 120 Tryd.underlying43 hi hy0 hy1 hy2 rfl (by decide) _ _ _ (by rfl) (World.ownsRow_nil _ _ _ _) ⟨Wc.heap.size, 0, none⟩ 1 1 (ckVals ⟨na, va, ho, al, pa, se, mo, pt, un, ma⟩) (by rfl) rfl (World.news_of_block (cs := #[.string na, .string va, .string ho, .bool al, .string pa, .bool se, .int .i64 mo, .string pt, .int .i64 un, .int .i64 ma]) (t := 90) (fr := (0, 0)) (heap_alloc_new Wc.drew _)) (one_ten ⟨na, va, ho, al, pa, se, mo, pt, un, ma⟩) (by unfold maxLen; omega) (by omega) (by simp) ?_; intro v6 w6 ho6 hg6 hn6; have A6 : Below Wc.heap.size Wc w6 := ((Below.refl _ _).drew.alloc (by simp) _).grown hg6 (by simp) (fun j hj => by cases hj); have O6 : Hid (World.ownsRow w6 Wc.heap.size 90 10 v6 _ _) := ho6; have p0 : w6.cell? ⟨w.heap.size, 0, none⟩ = some (.string na) := ((bcell A6).1 _ _ hxc).trans xc0; have p1 : w6.cell? ⟨w.heap.size, 1, none⟩ = some (.string va) := ((bcell A6).1 _ _ hxc).trans xc1; have p2 : w6.cell? ⟨w.heap.size, 2, none⟩ = some (.string ho) := ((bcell A6).1 _ _ hxc).trans xc2; have p3 : w6.cell? ⟨w.heap.size, 3, none⟩ = some (.bool al) := ((bcell A6).1 _ _ hxc).trans xc3; have p4 : w6.cell? ⟨w.heap.size, 4, none⟩ = some (.string pa) := ((bcell A6).1 _ _ hxc).trans xc4; have p5 : w6.cell? ⟨w.heap.size, 5, none⟩ = some (.bool se) := ((bcell A6).1 _ _ hxc).trans xc5; have p6 : w6.cell? ⟨w.heap.size, 6, none⟩ = some (.int .i64 mo) := ((bcell A6).1 _ _ hxc).trans xc6; have p7 : w6.cell? ⟨w.heap.size, 7, none⟩ = some (.string pt) := ((bcell A6).1 _ _ hxc).trans xc7; have p8 : w6.cell? ⟨w.heap.size, 8, none⟩ = some (.int .i64 un) := ((bcell A6).1 _ _ hxc).trans xc8; have p9 : w6.cell? ⟨w.heap.size, 9, none⟩ = some (.int .i64 ma) := ((bcell A6).1 _ _ hxc).trans xc9; clear ho6 hg6 hn6)
      refine hK.out _ _ ?_ (fun hH2 => ?_)
      · (try dsimp only)
        first | go_keep | (refine ⟨?_, ?_, ?_, ?_, ?_, ?_, ?_, ?_, ?_, ?_⟩ <;> assumption)
      clear hK K hH1
      try simp only [Act.put, List.setIfInBounds_toArray, List.set_cons_zero, List.set_cons_succ]
      refine wpAnyH_ready (rs := [10]) (by kernel_rfl) (by simp) ?_
      refine AllReadyH.cons (o := { dst := some 35, op := Op.call { callee := Callee.builtin Builtin.append, args := #[Operand.tmp 31, Operand.tmp 34], argTypes := #[43, 43] }, type := 43, pos := "l06_jar.go:264", after := #[{ on := 6, ground := Ground.data }, { on := 9, ground := Ground.data }, { on := 6, ground := Ground.chain }], guard := none }) rfl (fun K hK => ?_) AllReadyH.nil
      (rw [if_pos (by rfl)]; refine wp_append_nil _ _ 43 rfl Wc.heap.size 90 i0 10 Tryd.underlying43 hi _ _ _ (by rfl) O6.out (by rfl) ?_)
      refine hK.out _ _ ?_ (fun hH3 => ?_)
      · (try dsimp only)
        first | go_keep | (refine ⟨?_, ?_, ?_, ?_, ?_, ?_, ?_, ?_, ?_, ?_⟩ <;> assumption)
      clear hK K hH2
      try simp only [Act.put, List.setIfInBounds_toArray, List.set_cons_zero, List.set_cons_succ]
      refine wpAnyH_take (i := 11) (oi := { dst := some 6, op := Op.assign (Operand.tmp 35), type := 43, pos := "l06_jar.go:264", after := #[{ on := 10, ground := Ground.data }, { on := 10, ground := Ground.chain }, { on := 0, ground := Ground.phase }, { on := 1, ground := Ground.phase }, { on := 2, ground := Ground.phase }, { on := 3, ground := Ground.phase }, { on := 4, ground := Ground.phase }, { on := 5, ground := Ground.phase }, { on := 6, ground := Ground.phase }, { on := 7, ground := Ground.phase }, { on := 8, ground := Ground.phase }, { on := 9, ground := Ground.phase }, { on := 10, ground := Ground.phase }], guard := none }) (v := ?vb11) rfl (by kernel_rfl) (by kernel_rfl) (by kernel_rfl) (fun _ _ _ h => h) (Or.inl ⟨by rfl, ?hyb11⟩) (by assumption) ?restb11
      case hyb11 =>
        intro w hSw
        (try dsimp only at hSw)
        go_simp
        try with_reducible rfl
      try simp only [Act.put, List.setIfInBounds_toArray, List.set_cons_zero, List.set_cons_succ]
      refine wpAnyH_done (by kernel_rfl) ?_ _
      all_goals go_wp2
      have SF : Hid (SliceC w6 w.heap.size v6 ([] ++ (⟨na, va, ho, al, pa, se, mo, pt, un, ma⟩ : Ck) :: [])) := HOP2.out _ _ _ BC.out.size (by have h := O6.out; simpa using h)
      have BF : Hid (Below w.heap.size w w6) := BC.out.trans (A6.mono BC.out.size)
      go_ret
      exact ⟨_, rfl, SF.out, BF.out⟩
  · obtain ⟨⟨q, cap, rfl, hg⟩, q2, c2, e2, hcap⟩ := hs
    injection e2 with e3 _ e4
    subst e3 e4
    obtain ⟨g, rfl, -, hgw, hc⟩ := hg (by omega)
    clear hg hv hH hT
    have hHl : H.length ≤ (H ++ T).length := by rw [List.length_append]; omega
    have hcU : ∀ W, Below w.heap.size w W → ∀ j, j < (H ++ T).length → ∀ o, o < 10 → W.cell? ⟨g, j * 10 + o, none⟩ = some (ckC (atC (H ++ T) j) o) := fun W hb j hj o ho => ((bcell hb).1 _ _ hgw).trans (hc j hj o ho).1
    have HcU : Hid (∀ W, Below w.heap.size w W → ∀ j, j < (H ++ T).length → ∀ o, o < 10 → W.cell? ⟨g, j * 10 + o, none⟩ = some (ckC (atC (H ++ T) j) o)) := hcU
    have HC1 : Hid (∀ W, Below w.heap.size w W → ∀ j u, (ckCells H)[j]? = some u → W.cell? ((⟨g, 0, none⟩ : Addr).add j) = some u) := fun W hb => by
      have := ckCells_part (hcU W hb) 0 H (fun j hj => ⟨by rw [Nat.zero_add, atC_left hj], by omega⟩)
      simpa using this
    have HC2 : Hid (∀ W, Below w.heap.size w W → ∀ j u, (ckCells T)[j]? = some u → W.cell? ((⟨g, H.length * 10, none⟩ : Addr).add j) = some u) := fun W hb => ckCells_part (hcU W hb) H.length T (fun j hj => ⟨(atC_right H T j).symm, by rw [List.length_append]; omega⟩)
    have hl1 : (ckCells H).length = H.length * 10 := ckCells_len H
    have hl2 : (ckCells T).length = ((H ++ T).length - H.length) * 10 := by rw [ckCells_len, List.length_append]; congr 1; omega
    have o1 : ∀ v ∈ ckCells H, v.oneCell' = true := one_ckCells _
    have o2 : ∀ v ∈ ckCells T, v.oneCell' = true := one_ckCells _
    clear hc hcU
    generalize ckCells H = C1 at *
    generalize ckCells T = C2 at *
    generalize hMg : H ++ T = M at *
    generalize hhl : H.length = h at *
    clear hMg hhl
    obtain ⟨na, va, ho, al, pa, se, mo, pt, un, ma⟩ := x
    unfold ckV at *
    dsimp only at *
    go_enter Tryd.func82, Tryd.ntmps82
    go_upto_region 1 with fail
    rw [← hW0.out]
    clear hW0
    go_wp2
    go_loopw [7] (fun i wr => ∃ k : Nat, h ≤ k ∧ k ≤ M.length ∧ i = .int .i64 k ∧ Hid (Below W0.heap.size W0 wr)) (fun i _ => (intOf i).toNat)
    case atStart => exact ⟨M.length, hHl, Nat.le_refl _, rfl, Below.refl _ _⟩
    case round =>
      obtain ⟨k, hhk, hk, rfl, HB⟩ := hrel
      have hxr : w.heap.size < wr.heap.size := Nat.lt_of_lt_of_le z0 HB.out.size
      have x0 := ((bcell HB.out).1 _ _ z0).trans s0
      have x1 := ((bcell HB.out).1 _ _ z0).trans s1
      have x2 := ((bcell HB.out).1 _ _ z0).trans s2
      have x3 := ((bcell HB.out).1 _ _ z0).trans s3
      have x4 := ((bcell HB.out).1 _ _ z0).trans s4
      have x5 := ((bcell HB.out).1 _ _ z0).trans s5
      have x6 := ((bcell HB.out).1 _ _ z0).trans s6
      have x7 := ((bcell HB.out).1 _ _ z0).trans s7
      have x8 := ((bcell HB.out).1 _ _ z0).trans s8
      have x9 := ((bcell HB.out).1 _ _ z0).trans s9
      have BR : Hid (Below w.heap.size w wr) := B0.out.trans (HB.out.mono B0.out.size)
      by_cases hk0 : 0 < k
      · obtain ⟨j, rfl⟩ : ∃ j, k = j + 1 := ⟨k - 1, by omega⟩
        have hgr : g < wr.heap.size := by omega
        have c0 : wr.cell? ⟨g, j * 10, none⟩ = some (.string (atC M j).na) := HcU.out _ BR.out j (by omega) 0 (by omega)
        have c1 : wr.cell? ⟨g, j * 10 + 1, none⟩ = some (.string (atC M j).va) := HcU.out _ BR.out j (by omega) 1 (by omega)
        have c2 : wr.cell? ⟨g, j * 10 + 2, none⟩ = some (.string (atC M j).ho) := HcU.out _ BR.out j (by omega) 2 (by omega)
        have c3 : wr.cell? ⟨g, j * 10 + 3, none⟩ = some (.bool (atC M j).al) := HcU.out _ BR.out j (by omega) 3 (by omega)
        have c4 : wr.cell? ⟨g, j * 10 + 4, none⟩ = some (.string (atC M j).pa) := HcU.out _ BR.out j (by omega) 4 (by omega)
        have c5 : wr.cell? ⟨g, j * 10 + 5, none⟩ = some (.bool (atC M j).se) := HcU.out _ BR.out j (by omega) 5 (by omega)
        have c6 : wr.cell? ⟨g, j * 10 + 6, none⟩ = some (.int .i64 (atC M j).mo) := HcU.out _ BR.out j (by omega) 6 (by omega)
        have c7 : wr.cell? ⟨g, j * 10 + 7, none⟩ = some (.string (atC M j).pt) := HcU.out _ BR.out j (by omega) 7 (by omega)
        have c8 : wr.cell? ⟨g, j * 10 + 8, none⟩ = some (.int .i64 (atC M j).un) := HcU.out _ BR.out j (by omega) 8 (by omega)
        have c9 : wr.cell? ⟨g, j * 10 + 9, none⟩ = some (.int .i64 (atC M j).ma) := HcU.out _ BR.out j (by omega) 9 (by omega)
        have KN1 := KN.out j
        have hj0 : (0 : Int) ≤ j := by omega
        have hj1 : (j : Int) < M.length := by omega
        have hjp : decide ((0 : Int) < ((j + 1 : Nat) : Int)) = true := by rw [decide_eq_true_iff]; omega
        have hsub : IntKind.i64.wrap (((j + 1 : Nat) : Int) - 1) = (j : Int) := by rw [IntKind.wrap_i64]; omega
        have hsub3 : IntKind.i64.wrap (j : Int) = (j : Int) := by rw [IntKind.wrap_i64]; omega
        have hsub2 : IntKind.i64.wrap (((j : Int) + 1) - 1) = (j : Int) := by rw [IntKind.wrap_i64]; omega
        have hLo := HLo.out j
        have hHi := HHi.out j
        generalize nearI (atC M j) ⟨na, va, ho, al, pa, se, mo, pt, un, ma⟩ = near at *
        generalize atC M j = y at *
        obtain ⟨na', va', ho', al', pa', se', mo', pt', un', ma'⟩ := y
        dsimp only at *
        have KN1 : Hid (∀ W, Calls Tryd.prog 83 #[.agg #[.string na', .string va', .string ho', .bool al', .string pa', .bool se', .int .i64 mo', .string pt', .int .i64 un', .int .i64 ma'], .agg #[.string na, .string va, .string ho, .bool al, .string pa, .bool se, .int .i64 mo, .string pt, .int .i64 un, .int .i64 ma]] W fun e w' => e = .returned (.int .i64 near) ∧ Below W.heap.size W w') := KN1
        by_cases hjh : h ≤ j
        · have hp : 0 < near := hHi hjh (by omega)
          have qn : decide ((0 : Int) < near) = true := by rw [decide_eq_true_iff]; exact hp
          clear hLo hHi
          go_upto_region 2 with fail
          refine wp_region_held_drew (S := (fun w' => w'.cell? ⟨g, j * 10, none⟩ = some (.string na') ∧ w'.cell? ⟨g, j * 10 + 1, none⟩ = some (.string va') ∧ w'.cell? ⟨g, j * 10 + 2, none⟩ = some (.string ho') ∧ w'.cell? ⟨g, j * 10 + 3, none⟩ = some (.bool al') ∧ w'.cell? ⟨g, j * 10 + 4, none⟩ = some (.string pa') ∧ w'.cell? ⟨g, j * 10 + 5, none⟩ = some (.bool se') ∧ w'.cell? ⟨g, j * 10 + 6, none⟩ = some (.int .i64 mo') ∧ w'.cell? ⟨g, j * 10 + 7, none⟩ = some (.string pt') ∧ w'.cell? ⟨g, j * 10 + 8, none⟩ = some (.int .i64 un') ∧ w'.cell? ⟨g, j * 10 + 9, none⟩ = some (.int .i64 ma') ∧ w'.cell? ⟨w.heap.size, 0, none⟩ = some (.string na) ∧ w'.cell? ⟨w.heap.size, 1, none⟩ = some (.string va) ∧ w'.cell? ⟨w.heap.size, 2, none⟩ = some (.string ho) ∧ w'.cell? ⟨w.heap.size, 3, none⟩ = some (.bool al) ∧ w'.cell? ⟨w.heap.size, 4, none⟩ = some (.string pa) ∧ w'.cell? ⟨w.heap.size, 5, none⟩ = some (.bool se) ∧ w'.cell? ⟨w.heap.size, 6, none⟩ = some (.int .i64 mo) ∧ w'.cell? ⟨w.heap.size, 7, none⟩ = some (.string pt) ∧ w'.cell? ⟨w.heap.size, 8, none⟩ = some (.int .i64 un) ∧ w'.cell? ⟨w.heap.size, 9, none⟩ = some (.int .i64 ma))) (by kernel_rfl) ?_ (fun hH0 => ?_)
          · (try dsimp only)
            go_keep
          refine wpAnyH_take (i := 0) (oi := { dst := some 10, op := Op.move (Operand.tmp 7), type := 3, pos := "l06_jar.go:259", after := #[], guard := none }) (v := ?vg0) rfl (by kernel_rfl) (by kernel_rfl) (by kernel_rfl) (fun _ _ _ h => h) (Or.inl ⟨by rfl, ?hyg0⟩) (by assumption) ?restg0
          case hyg0 =>
            intro w hSw
            (try dsimp only at hSw)
            go_simp
            try with_reducible rfl
          try simp only [Act.put, List.setIfInBounds_toArray, List.set_cons_zero, List.set_cons_succ]
          refine wpAnyH_take (i := 1) (oi := { dst := some 11, op := Op.binOp BinOp.gtr 3 (Operand.tmp 10) (Operand.const (Value.int IntKind.i64 0)) 3, type := 4, pos := "l06_jar.go:259", after := #[{ on := 0, ground := Ground.data }], guard := none }) (v := ?vg1) rfl (by kernel_rfl) (by kernel_rfl) (by kernel_rfl) (fun _ _ _ h => h) (Or.inl ⟨by rfl, ?hyg1⟩) (by assumption) ?restg1
          case hyg1 =>
            intro w hSw
            (try dsimp only at hSw)
            go_simp
            try with_reducible rfl
          try simp only [Act.put, List.setIfInBounds_toArray, List.set_cons_zero, List.set_cons_succ]
          refine wpAnyH_take (i := 2) (oi := { dst := some 12, op := Op.move (Operand.tmp 11), type := 4, pos := "l06_jar.go:259", after := #[{ on := 1, ground := Ground.data }], guard := none }) (v := ?vg2) rfl (by kernel_rfl) (by kernel_rfl) (by kernel_rfl) (fun _ _ _ h => h) (Or.inl ⟨by rfl, ?hyg2⟩) (by assumption) ?restg2
          case hyg2 =>
            intro w hSw
            (try dsimp only at hSw)
            go_simp
            try with_reducible rfl
          try simp only [Act.put, List.setIfInBounds_toArray, List.set_cons_zero, List.set_cons_succ]
          refine wpAnyH_take (i := 3) (oi := { dst := some 13, op := Op.move (Operand.tmp 2), type := 97, pos := "l06_jar.go:259", after := #[{ on := 2, ground := Ground.guard }], guard := some (2, true) }) (v := ?vg3) rfl (by kernel_rfl) (by kernel_rfl) (by kernel_rfl) (fun _ _ _ h => h) (Or.inl ⟨by rfl, ?hyg3⟩) (by assumption) ?restg3
          case hyg3 =>
            intro w hSw
            (try dsimp only at hSw)
            go_simp
            try with_reducible rfl
          try simp only [Act.put, List.setIfInBounds_toArray, List.set_cons_zero, List.set_cons_succ]
          refine wpAnyH_take (i := 4) (oi := { dst := some 14, op := Op.move (Operand.tmp 0), type := 43, pos := "l06_jar.go:259", after := #[{ on := 2, ground := Ground.guard }], guard := some (2, true) }) (v := ?vg4) rfl (by kernel_rfl) (by kernel_rfl) (by kernel_rfl) (fun _ _ _ h => h) (Or.inl ⟨by rfl, ?hyg4⟩) (by assumption) ?restg4
          case hyg4 =>
            intro w hSw
            (try dsimp only at hSw)
            go_simp
            try with_reducible rfl
          try simp only [Act.put, List.setIfInBounds_toArray, List.set_cons_zero, List.set_cons_succ]
          refine wpAnyH_take (i := 5) (oi := { dst := some 15, op := Op.move (Operand.tmp 7), type := 3, pos := "l06_jar.go:259", after := #[{ on := 2, ground := Ground.guard }], guard := some (2, true) }) (v := ?vg5) rfl (by kernel_rfl) (by kernel_rfl) (by kernel_rfl) (fun _ _ _ h => h) (Or.inl ⟨by rfl, ?hyg5⟩) (by assumption) ?restg5
          case hyg5 =>
            intro w hSw
            (try dsimp only at hSw)
            go_simp
            try with_reducible rfl
          try simp only [Act.put, List.setIfInBounds_toArray, List.set_cons_zero, List.set_cons_succ]
          refine wpAnyH_take (i := 6) (oi := { dst := some 16, op := Op.binOp BinOp.sub 3 (Operand.tmp 15) (Operand.const (Value.int IntKind.i64 1)) 3, type := 3, pos := "l06_jar.go:259", after := #[{ on := 5, ground := Ground.data }, { on := 2, ground := Ground.guard }], guard := some (2, true) }) (v := ?vg6) rfl (by kernel_rfl) (by kernel_rfl) (by kernel_rfl) (fun _ _ _ h => h) (Or.inl ⟨by rfl, ?hyg6⟩) (by assumption) ?restg6
          case hyg6 =>
            intro w hSw
            (try dsimp only at hSw)
            go_simp
            try with_reducible rfl
          try simp only [Act.put, List.setIfInBounds_toArray, List.set_cons_zero, List.set_cons_succ]
          refine wpAnyH_take (i := 7) (oi := { dst := some 17, op := Op.indexAddr 43 (Operand.tmp 14) (Operand.tmp 16), type := 0, pos := "l06_jar.go:259", after := #[{ on := 4, ground := Ground.data }, { on := 6, ground := Ground.data }, { on := 2, ground := Ground.guard }], guard := some (2, true) }) (v := ?vg7) rfl (by kernel_rfl) (by kernel_rfl) (by kernel_rfl) (fun _ _ _ h => h) (Or.inl ⟨by rfl, ?hyg7⟩) (by assumption) ?restg7
          case hyg7 =>
            intro w hSw
            (try dsimp only at hSw)
            go_simp
            try with_reducible rfl
          try simp only [Act.put, List.setIfInBounds_toArray, List.set_cons_zero, List.set_cons_succ]
          refine wpAnyH_take (i := 8) (oi := { dst := some 18, op := Op.load 90 (Operand.tmp 17), type := 90, pos := "l06_jar.go:259", after := #[{ on := 7, ground := Ground.data }, { on := 2, ground := Ground.guard }], guard := some (2, true) }) (v := ?vg8) rfl (by kernel_rfl) (by kernel_rfl) (by kernel_rfl) (fun _ _ _ h => h) (Or.inl ⟨by rfl, ?hyg8⟩) (by assumption) ?restg8
          case hyg8 =>
            intro w hSw
            (try dsimp only at hSw)
            go_simp
            try with_reducible rfl
          try simp only [Act.put, List.setIfInBounds_toArray, List.set_cons_zero, List.set_cons_succ]
          refine wpAnyH_take (i := 9) (oi := { dst := some 19, op := Op.load 90 (Operand.tmp 4), type := 90, pos := "l06_jar.go:259", after := #[{ on := 2, ground := Ground.guard }], guard := some (2, true) }) (v := ?vg9) rfl (by kernel_rfl) (by kernel_rfl) (by kernel_rfl) (fun _ _ _ h => h) (Or.inl ⟨by rfl, ?hyg9⟩) (by assumption) ?restg9
          case hyg9 =>
            intro w hSw
            (try dsimp only at hSw)
            go_simp
            try with_reducible rfl
          try simp only [Act.put, List.setIfInBounds_toArray, List.set_cons_zero, List.set_cons_succ]
          refine wpAnyH_ready (rs := [10]) (by kernel_rfl) (by simp) ?_
          refine AllReadyH.cons (o := { dst := some 20, op := Op.call { callee := Callee.value (Operand.tmp 13), args := #[Operand.tmp 18, Operand.tmp 19], argTypes := #[90, 90] }, type := 3, pos := "l06_jar.go:259", after := #[{ on := 3, ground := Ground.data }, { on := 8, ground := Ground.data }, { on := 9, ground := Ground.data }, { on := 2, ground := Ground.chain }, { on := 2, ground := Ground.guard }], guard := some (2, true) }) rfl (fun K hK => ?_) AllReadyH.nil
          go_simp
          ((try go_at_call 83); refine (KN1.out _).mono ?_; rintro e w5 ⟨rfl, hb5⟩; have A5 : Below wr.heap.size wr w5 := (Below.drew (Below.refl _ _)).trans hb5; have d0 := ((bcell A5).1 _ _ hgr).trans c0; have d1 := ((bcell A5).1 _ _ hgr).trans c1; have d2 := ((bcell A5).1 _ _ hgr).trans c2; have d3 := ((bcell A5).1 _ _ hgr).trans c3; have d4 := ((bcell A5).1 _ _ hgr).trans c4; have d5 := ((bcell A5).1 _ _ hgr).trans c5; have d6 := ((bcell A5).1 _ _ hgr).trans c6; have d7 := ((bcell A5).1 _ _ hgr).trans c7; have d8 := ((bcell A5).1 _ _ hgr).trans c8; have d9 := ((bcell A5).1 _ _ hgr).trans c9; have y0 := ((bcell A5).1 _ _ hxr).trans x0; have y1 := ((bcell A5).1 _ _ hxr).trans x1; have y2 := ((bcell A5).1 _ _ hxr).trans x2; have y3 := ((bcell A5).1 _ _ hxr).trans x3; have y4 := ((bcell A5).1 _ _ hxr).trans x4; have y5 := ((bcell A5).1 _ _ hxr).trans x5; have y6 := ((bcell A5).1 _ _ hxr).trans x6; have y7 := ((bcell A5).1 _ _ hxr).trans x7; have y8 := ((bcell A5).1 _ _ hxr).trans x8; have y9 := ((bcell A5).1 _ _ hxr).trans x9)
          try (go_wp2_with fail)
          refine hK.out _ _ ?_ (fun hH1 => ?_)
          · (try dsimp only)
            first | go_keep | (refine ⟨?_, ?_, ?_, ?_, ?_, ?_, ?_, ?_, ?_, ?_, ?_, ?_, ?_, ?_, ?_, ?_, ?_, ?_, ?_, ?_⟩ <;> assumption)
          clear hK K hH0
          try simp only [Act.put, List.setIfInBounds_toArray, List.set_cons_zero, List.set_cons_succ]
          refine wpAnyH_take (i := 11) (oi := { dst := some 21, op := Op.binOp BinOp.gtr 3 (Operand.tmp 20) (Operand.const (Value.int IntKind.i64 0)) 3, type := 4, pos := "l06_jar.go:259", after := #[{ on := 10, ground := Ground.data }, { on := 2, ground := Ground.guard }], guard := some (2, true) }) (v := ?vg11) rfl (by kernel_rfl) (by kernel_rfl) (by kernel_rfl) (fun _ _ _ h => h) (Or.inl ⟨by rfl, ?hyg11⟩) (by assumption) ?restg11
          case hyg11 =>
            intro w hSw
            (try dsimp only at hSw)
            go_simp
            try with_reducible rfl
          try simp only [Act.put, List.setIfInBounds_toArray, List.set_cons_zero, List.set_cons_succ]
          refine wpAnyH_take (i := 12) (oi := { dst := some 22, op := Op.pick (Operand.tmp 12) (Operand.tmp 21) (Operand.const (Value.bool false)), type := 4, pos := "l06_jar.go:259", after := #[{ on := 2, ground := Ground.data }, { on := 11, ground := Ground.data }], guard := none }) (v := ?vg12) rfl (by kernel_rfl) (by kernel_rfl) (by kernel_rfl) (fun _ _ _ h => h) (Or.inl ⟨by rfl, ?hyg12⟩) (by assumption) ?restg12
          case hyg12 =>
            intro w hSw
            (try dsimp only at hSw)
            go_simp
            try with_reducible rfl
          try simp only [Act.put, List.setIfInBounds_toArray, List.set_cons_zero, List.set_cons_succ]
          refine wpAnyH_done (by kernel_rfl) ?_ _
          all_goals go_wp2
          have BN : Hid (Below W0.heap.size W0 w5) := HB.out.trans (A5.mono HB.out.size)
          go_roundw
          case rel => exact ⟨j, hjh, by omega, by first | rfl | (go_num; omega) | exact val_int (by omega), BN⟩
          case measure => simp [intOf]
        · have hp : near ≤ 0 := hLo (by omega)
          have qn : decide ((0 : Int) < near) = false := by rw [decide_eq_false_iff_not]; omega
          clear hLo hHi
          go_upto_region 2 with fail
          refine wp_region_held_drew (S := (fun w' => w'.cell? ⟨g, j * 10, none⟩ = some (.string na') ∧ w'.cell? ⟨g, j * 10 + 1, none⟩ = some (.string va') ∧ w'.cell? ⟨g, j * 10 + 2, none⟩ = some (.string ho') ∧ w'.cell? ⟨g, j * 10 + 3, none⟩ = some (.bool al') ∧ w'.cell? ⟨g, j * 10 + 4, none⟩ = some (.string pa') ∧ w'.cell? ⟨g, j * 10 + 5, none⟩ = some (.bool se') ∧ w'.cell? ⟨g, j * 10 + 6, none⟩ = some (.int .i64 mo') ∧ w'.cell? ⟨g, j * 10 + 7, none⟩ = some (.string pt') ∧ w'.cell? ⟨g, j * 10 + 8, none⟩ = some (.int .i64 un') ∧ w'.cell? ⟨g, j * 10 + 9, none⟩ = some (.int .i64 ma') ∧ w'.cell? ⟨w.heap.size, 0, none⟩ = some (.string na) ∧ w'.cell? ⟨w.heap.size, 1, none⟩ = some (.string va) ∧ w'.cell? ⟨w.heap.size, 2, none⟩ = some (.string ho) ∧ w'.cell? ⟨w.heap.size, 3, none⟩ = some (.bool al) ∧ w'.cell? ⟨w.heap.size, 4, none⟩ = some (.string pa) ∧ w'.cell? ⟨w.heap.size, 5, none⟩ = some (.bool se) ∧ w'.cell? ⟨w.heap.size, 6, none⟩ = some (.int .i64 mo) ∧ w'.cell? ⟨w.heap.size, 7, none⟩ = some (.string pt) ∧ w'.cell? ⟨w.heap.size, 8, none⟩ = some (.int .i64 un) ∧ w'.cell? ⟨w.heap.size, 9, none⟩ = some (.int .i64 ma))) (by kernel_rfl) ?_ (fun hH0 => ?_)
          · (try dsimp only)
            go_keep
          refine wpAnyH_take (i := 0) (oi := { dst := some 10, op := Op.move (Operand.tmp 7), type := 3, pos := "l06_jar.go:259", after := #[], guard := none }) (v := ?vh0) rfl (by kernel_rfl) (by kernel_rfl) (by kernel_rfl) (fun _ _ _ h => h) (Or.inl ⟨by rfl, ?hyh0⟩) (by assumption) ?resth0
          case hyh0 =>
            intro w hSw
            (try dsimp only at hSw)
            go_simp
            try with_reducible rfl
          try simp only [Act.put, List.setIfInBounds_toArray, List.set_cons_zero, List.set_cons_succ]
          refine wpAnyH_take (i := 1) (oi := { dst := some 11, op := Op.binOp BinOp.gtr 3 (Operand.tmp 10) (Operand.const (Value.int IntKind.i64 0)) 3, type := 4, pos := "l06_jar.go:259", after := #[{ on := 0, ground := Ground.data }], guard := none }) (v := ?vh1) rfl (by kernel_rfl) (by kernel_rfl) (by kernel_rfl) (fun _ _ _ h => h) (Or.inl ⟨by rfl, ?hyh1⟩) (by assumption) ?resth1
          case hyh1 =>
            intro w hSw
            (try dsimp only at hSw)
            go_simp
            try with_reducible rfl
          try simp only [Act.put, List.setIfInBounds_toArray, List.set_cons_zero, List.set_cons_succ]
          refine wpAnyH_take (i := 2) (oi := { dst := some 12, op := Op.move (Operand.tmp 11), type := 4, pos := "l06_jar.go:259", after := #[{ on := 1, ground := Ground.data }], guard := none }) (v := ?vh2) rfl (by kernel_rfl) (by kernel_rfl) (by kernel_rfl) (fun _ _ _ h => h) (Or.inl ⟨by rfl, ?hyh2⟩) (by assumption) ?resth2
          case hyh2 =>
            intro w hSw
            (try dsimp only at hSw)
            go_simp
            try with_reducible rfl
          try simp only [Act.put, List.setIfInBounds_toArray, List.set_cons_zero, List.set_cons_succ]
          refine wpAnyH_take (i := 3) (oi := { dst := some 13, op := Op.move (Operand.tmp 2), type := 97, pos := "l06_jar.go:259", after := #[{ on := 2, ground := Ground.guard }], guard := some (2, true) }) (v := ?vh3) rfl (by kernel_rfl) (by kernel_rfl) (by kernel_rfl) (fun _ _ _ h => h) (Or.inl ⟨by rfl, ?hyh3⟩) (by assumption) ?resth3
          case hyh3 =>
            intro w hSw
            (try dsimp only at hSw)
            go_simp
            try with_reducible rfl
          try simp only [Act.put, List.setIfInBounds_toArray, List.set_cons_zero, List.set_cons_succ]
          refine wpAnyH_take (i := 4) (oi := { dst := some 14, op := Op.move (Operand.tmp 0), type := 43, pos := "l06_jar.go:259", after := #[{ on := 2, ground := Ground.guard }], guard := some (2, true) }) (v := ?vh4) rfl (by kernel_rfl) (by kernel_rfl) (by kernel_rfl) (fun _ _ _ h => h) (Or.inl ⟨by rfl, ?hyh4⟩) (by assumption) ?resth4
          case hyh4 =>
            intro w hSw
            (try dsimp only at hSw)
            go_simp
            try with_reducible rfl
          try simp only [Act.put, List.setIfInBounds_toArray, List.set_cons_zero, List.set_cons_succ]
          refine wpAnyH_take (i := 5) (oi := { dst := some 15, op := Op.move (Operand.tmp 7), type := 3, pos := "l06_jar.go:259", after := #[{ on := 2, ground := Ground.guard }], guard := some (2, true) }) (v := ?vh5) rfl (by kernel_rfl) (by kernel_rfl) (by kernel_rfl) (fun _ _ _ h => h) (Or.inl ⟨by rfl, ?hyh5⟩) (by assumption) ?resth5
          case hyh5 =>
            intro w hSw
            (try dsimp only at hSw)
            go_simp
            try with_reducible rfl
          try simp only [Act.put, List.setIfInBounds_toArray, List.set_cons_zero, List.set_cons_succ]
          refine wpAnyH_take (i := 6) (oi := { dst := some 16, op := Op.binOp BinOp.sub 3 (Operand.tmp 15) (Operand.const (Value.int IntKind.i64 1)) 3, type := 3, pos := "l06_jar.go:259", after := #[{ on := 5, ground := Ground.data }, { on := 2, ground := Ground.guard }], guard := some (2, true) }) (v := ?vh6) rfl (by kernel_rfl) (by kernel_rfl) (by kernel_rfl) (fun _ _ _ h => h) (Or.inl ⟨by rfl, ?hyh6⟩) (by assumption) ?resth6
          case hyh6 =>
            intro w hSw
            (try dsimp only at hSw)
            go_simp
            try with_reducible rfl
          try simp only [Act.put, List.setIfInBounds_toArray, List.set_cons_zero, List.set_cons_succ]
          refine wpAnyH_take (i := 7) (oi := { dst := some 17, op := Op.indexAddr 43 (Operand.tmp 14) (Operand.tmp 16), type := 0, pos := "l06_jar.go:259", after := #[{ on := 4, ground := Ground.data }, { on := 6, ground := Ground.data }, { on := 2, ground := Ground.guard }], guard := some (2, true) }) (v := ?vh7) rfl (by kernel_rfl) (by kernel_rfl) (by kernel_rfl) (fun _ _ _ h => h) (Or.inl ⟨by rfl, ?hyh7⟩) (by assumption) ?resth7
          case hyh7 =>
            intro w hSw
            (try dsimp only at hSw)
            go_simp
            try with_reducible rfl
          try simp only [Act.put, List.setIfInBounds_toArray, List.set_cons_zero, List.set_cons_succ]
          refine wpAnyH_take (i := 8) (oi := { dst := some 18, op := Op.load 90 (Operand.tmp 17), type := 90, pos := "l06_jar.go:259", after := #[{ on := 7, ground := Ground.data }, { on := 2, ground := Ground.guard }], guard := some (2, true) }) (v := ?vh8) rfl (by kernel_rfl) (by kernel_rfl) (by kernel_rfl) (fun _ _ _ h => h) (Or.inl ⟨by rfl, ?hyh8⟩) (by assumption) ?resth8
          case hyh8 =>
            intro w hSw
            (try dsimp only at hSw)
            go_simp
            try with_reducible rfl
          try simp only [Act.put, List.setIfInBounds_toArray, List.set_cons_zero, List.set_cons_succ]
          refine wpAnyH_take (i := 9) (oi := { dst := some 19, op := Op.load 90 (Operand.tmp 4), type := 90, pos := "l06_jar.go:259", after := #[{ on := 2, ground := Ground.guard }], guard := some (2, true) }) (v := ?vh9) rfl (by kernel_rfl) (by kernel_rfl) (by kernel_rfl) (fun _ _ _ h => h) (Or.inl ⟨by rfl, ?hyh9⟩) (by assumption) ?resth9
          case hyh9 =>
            intro w hSw
            (try dsimp only at hSw)
            go_simp
            try with_reducible rfl
          try simp only [Act.put, List.setIfInBounds_toArray, List.set_cons_zero, List.set_cons_succ]
          refine wpAnyH_ready (rs := [10]) (by kernel_rfl) (by simp) ?_
          refine AllReadyH.cons (o := { dst := some 20, op := Op.call { callee := Callee.value (Operand.tmp 13), args := #[Operand.tmp 18, Operand.tmp 19], argTypes := #[90, 90] }, type := 3, pos := "l06_jar.go:259", after := #[{ on := 3, ground := Ground.data }, { on := 8, ground := Ground.data }, { on := 9, ground := Ground.data }, { on := 2, ground := Ground.chain }, { on := 2, ground := Ground.guard }], guard := some (2, true) }) rfl (fun K hK => ?_) AllReadyH.nil
          go_simp
          ((try go_at_call 83); refine (KN1.out _).mono ?_; rintro e w5 ⟨rfl, hb5⟩; have A5 : Below wr.heap.size wr w5 := (Below.drew (Below.refl _ _)).trans hb5; have d0 := ((bcell A5).1 _ _ hgr).trans c0; have d1 := ((bcell A5).1 _ _ hgr).trans c1; have d2 := ((bcell A5).1 _ _ hgr).trans c2; have d3 := ((bcell A5).1 _ _ hgr).trans c3; have d4 := ((bcell A5).1 _ _ hgr).trans c4; have d5 := ((bcell A5).1 _ _ hgr).trans c5; have d6 := ((bcell A5).1 _ _ hgr).trans c6; have d7 := ((bcell A5).1 _ _ hgr).trans c7; have d8 := ((bcell A5).1 _ _ hgr).trans c8; have d9 := ((bcell A5).1 _ _ hgr).trans c9; have y0 := ((bcell A5).1 _ _ hxr).trans x0; have y1 := ((bcell A5).1 _ _ hxr).trans x1; have y2 := ((bcell A5).1 _ _ hxr).trans x2; have y3 := ((bcell A5).1 _ _ hxr).trans x3; have y4 := ((bcell A5).1 _ _ hxr).trans x4; have y5 := ((bcell A5).1 _ _ hxr).trans x5; have y6 := ((bcell A5).1 _ _ hxr).trans x6; have y7 := ((bcell A5).1 _ _ hxr).trans x7; have y8 := ((bcell A5).1 _ _ hxr).trans x8; have y9 := ((bcell A5).1 _ _ hxr).trans x9)
          try (go_wp2_with fail)
          refine hK.out _ _ ?_ (fun hH1 => ?_)
          · (try dsimp only)
            first | go_keep | (refine ⟨?_, ?_, ?_, ?_, ?_, ?_, ?_, ?_, ?_, ?_, ?_, ?_, ?_, ?_, ?_, ?_, ?_, ?_, ?_, ?_⟩ <;> assumption)
          clear hK K hH0
          try simp only [Act.put, List.setIfInBounds_toArray, List.set_cons_zero, List.set_cons_succ]
          refine wpAnyH_take (i := 11) (oi := { dst := some 21, op := Op.binOp BinOp.gtr 3 (Operand.tmp 20) (Operand.const (Value.int IntKind.i64 0)) 3, type := 4, pos := "l06_jar.go:259", after := #[{ on := 10, ground := Ground.data }, { on := 2, ground := Ground.guard }], guard := some (2, true) }) (v := ?vh11) rfl (by kernel_rfl) (by kernel_rfl) (by kernel_rfl) (fun _ _ _ h => h) (Or.inl ⟨by rfl, ?hyh11⟩) (by assumption) ?resth11
          case hyh11 =>
            intro w hSw
            (try dsimp only at hSw)
            go_simp
            try with_reducible rfl
          try simp only [Act.put, List.setIfInBounds_toArray, List.set_cons_zero, List.set_cons_succ]
          refine wpAnyH_take (i := 12) (oi := { dst := some 22, op := Op.pick (Operand.tmp 12) (Operand.tmp 21) (Operand.const (Value.bool false)), type := 4, pos := "l06_jar.go:259", after := #[{ on := 2, ground := Ground.data }, { on := 11, ground := Ground.data }], guard := none }) (v := ?vh12) rfl (by kernel_rfl) (by kernel_rfl) (by kernel_rfl) (fun _ _ _ h => h) (Or.inl ⟨by rfl, ?hyh12⟩) (by assumption) ?resth12
          case hyh12 =>
            intro w hSw
            (try dsimp only at hSw)
            go_simp
            try with_reducible rfl
          try simp only [Act.put, List.setIfInBounds_toArray, List.set_cons_zero, List.set_cons_succ]
          refine wpAnyH_done (by kernel_rfl) ?_ _
          obtain rfl : h = j + 1 := by omega
          have BC : Hid (Below w.heap.size w w5) := BR.out.trans (A5.mono BR.out.size)
          have hxc : w.heap.size < w5.heap.size := Nat.lt_of_lt_of_le hxr A5.size
          have xc0 : w5.cell? ⟨w.heap.size, 0, none⟩ = some (.string na) := y0
          have xc1 : w5.cell? ⟨w.heap.size, 1, none⟩ = some (.string va) := y1
          have xc2 : w5.cell? ⟨w.heap.size, 2, none⟩ = some (.string ho) := y2
          have xc3 : w5.cell? ⟨w.heap.size, 3, none⟩ = some (.bool al) := y3
          have xc4 : w5.cell? ⟨w.heap.size, 4, none⟩ = some (.string pa) := y4
          have xc5 : w5.cell? ⟨w.heap.size, 5, none⟩ = some (.bool se) := y5
          have xc6 : w5.cell? ⟨w.heap.size, 6, none⟩ = some (.int .i64 mo) := y6
          have xc7 : w5.cell? ⟨w.heap.size, 7, none⟩ = some (.string pt) := y7
          have xc8 : w5.cell? ⟨w.heap.size, 8, none⟩ = some (.int .i64 un) := y8
          have xc9 : w5.cell? ⟨w.heap.size, 9, none⟩ = some (.int .i64 ma) := y9
          clear y0 x0 y1 x1 y2 x2 y3 x3 y4 x4 y5 x5 y6 x6 y7 x7 y8 x8 y9 x9
          clear BR B0 HB z0 KN HLo HHi KN1 hb5
          generalize hwc : w5 = Wc at *
          clear hwc
          have HD1 : Hid (∀ W, Below Wc.heap.size Wc W → ∀ j u, C1[j]? = some u → W.cell? ((⟨g, 0, none⟩ : Addr).add j) = some u) := fun W hb => HC1.out W (BC.out.trans (hb.mono BC.out.size))
          have HD2 : Hid (∀ W, Below Wc.heap.size Wc W → ∀ i u, C2[i]? = some u → W.cell? ((⟨g, (j + 1) * 10, none⟩ : Addr).add i) = some u) := fun W hb => HC2.out W (BC.out.trans (hb.mono BC.out.size))
          clear HC1 HC2
          have kc : ((j + 1 : Nat) : Int) ≤ cap := by omega
          have kc2 : (j : Int) + 1 ≤ cap := by omega
          have kz : (0 : Int) ≤ (j : Int) + 1 := by omega
          have kl2 : (j : Int) + 1 ≤ (M.length : Int) := by omega
          by_cases hcl : j + 1 = cap
          · have hz0 : M.length - (j + 1) = 0 := by omega
            have hC2 : C2 = [] := List.length_eq_zero_iff.1 (by omega)
            have hl1 : C1.length = cap * 10 := by rw [← hcl]; exact hl1
            go_upto_region 4 with fail
            refine wp_region_held_drew (S := (fun w' => w'.cell? ⟨w.heap.size, 0, none⟩ = some (.string na) ∧ w'.cell? ⟨w.heap.size, 1, none⟩ = some (.string va) ∧ w'.cell? ⟨w.heap.size, 2, none⟩ = some (.string ho) ∧ w'.cell? ⟨w.heap.size, 3, none⟩ = some (.bool al) ∧ w'.cell? ⟨w.heap.size, 4, none⟩ = some (.string pa) ∧ w'.cell? ⟨w.heap.size, 5, none⟩ = some (.bool se) ∧ w'.cell? ⟨w.heap.size, 6, none⟩ = some (.int .i64 mo) ∧ w'.cell? ⟨w.heap.size, 7, none⟩ = some (.string pt) ∧ w'.cell? ⟨w.heap.size, 8, none⟩ = some (.int .i64 un) ∧ w'.cell? ⟨w.heap.size, 9, none⟩ = some (.int .i64 ma))) (by kernel_rfl) ?_ (fun hH0 => ?_)
            · (try dsimp only)
              go_keep
            refine wpAnyH_take (i := 0) (oi := { dst := some 25, op := Op.move (Operand.tmp 0), type := 43, pos := "l06_jar.go:264", after := #[], guard := none }) (v := ?vd0) rfl (by kernel_rfl) (by kernel_rfl) (by kernel_rfl) (fun _ _ _ h => h) (Or.inl ⟨by rfl, ?hyd0⟩) (by assumption) ?restd0
            case hyd0 =>
              intro w hSw
              (try dsimp only at hSw)
              go_simp
              try with_reducible rfl
            try simp only [Act.put, List.setIfInBounds_toArray, List.set_cons_zero, List.set_cons_succ]
            refine wpAnyH_take (i := 1) (oi := { dst := some 26, op := Op.move (Operand.tmp 7), type := 3, pos := "l06_jar.go:264", after := #[], guard := none }) (v := ?vd1) rfl (by kernel_rfl) (by kernel_rfl) (by kernel_rfl) (fun _ _ _ h => h) (Or.inl ⟨by rfl, ?hyd1⟩) (by assumption) ?restd1
            case hyd1 =>
              intro w hSw
              (try dsimp only at hSw)
              go_simp
              try with_reducible rfl
            try simp only [Act.put, List.setIfInBounds_toArray, List.set_cons_zero, List.set_cons_succ]
            refine wpAnyH_take (i := 2) (oi := { dst := some 27, op := Op.move (Operand.tmp 7), type := 3, pos := "l06_jar.go:264", after := #[], guard := none }) (v := ?vd2) rfl (by kernel_rfl) (by kernel_rfl) (by kernel_rfl) (fun _ _ _ h => h) (Or.inl ⟨by rfl, ?hyd2⟩) (by assumption) ?restd2
            case hyd2 =>
              intro w hSw
              (try dsimp only at hSw)
              go_simp
              try with_reducible rfl
            try simp only [Act.put, List.setIfInBounds_toArray, List.set_cons_zero, List.set_cons_succ]
            refine wpAnyH_take (i := 3) (oi := { dst := some 28, op := Op.slice 43 (Operand.tmp 25) none (some (Operand.tmp 26)) (some (Operand.tmp 27)), type := 43, pos := "l06_jar.go:264", after := #[{ on := 0, ground := Ground.data }, { on := 1, ground := Ground.data }, { on := 2, ground := Ground.data }], guard := none }) (v := ?vd3) rfl (by kernel_rfl) (by kernel_rfl) (by kernel_rfl) (fun _ _ _ h => h) (Or.inl ⟨by rfl, ?hyd3⟩) (by assumption) ?restd3
            case hyd3 =>
              intro w hSw
              (try dsimp only at hSw)
              go_simp
              try with_reducible rfl
            try simp only [Act.put, List.setIfInBounds_toArray, List.set_cons_zero, List.set_cons_succ]
            refine wpAnyH_take (i := 4) (oi := { dst := some 29, op := Op.load 90 (Operand.tmp 4), type := 90, pos := "l06_jar.go:264", after := #[], guard := none }) (v := ?vd4) rfl (by kernel_rfl) (by kernel_rfl) (by kernel_rfl) (fun _ _ _ h => h) (Or.inl ⟨by rfl, ?hyd4⟩) (by assumption) ?restd4
            case hyd4 =>
              intro w hSw
              (try dsimp only at hSw)
              go_simp
              try with_reducible rfl
            try simp only [Act.put, List.setIfInBounds_toArray, List.set_cons_zero, List.set_cons_succ]
            refine wpAnyH_take (i := 7) (oi := { dst := some 32, op := Op.move (Operand.tmp 0), type := 43, pos := "l06_jar.go:264", after := #[], guard := none }) (v := ?vd7) rfl (by kernel_rfl) (by kernel_rfl) (by kernel_rfl) (fun _ _ _ h => h) (Or.inl ⟨by rfl, ?hyd7⟩) (by assumption) ?restd7
            case hyd7 =>
              intro w hSw
              (try dsimp only at hSw)
              go_simp
              try with_reducible rfl
            try simp only [Act.put, List.setIfInBounds_toArray, List.set_cons_zero, List.set_cons_succ]
            refine wpAnyH_take (i := 8) (oi := { dst := some 33, op := Op.move (Operand.tmp 7), type := 3, pos := "l06_jar.go:264", after := #[], guard := none }) (v := ?vd8) rfl (by kernel_rfl) (by kernel_rfl) (by kernel_rfl) (fun _ _ _ h => h) (Or.inl ⟨by rfl, ?hyd8⟩) (by assumption) ?restd8
            case hyd8 =>
              intro w hSw
              (try dsimp only at hSw)
              go_simp
              try with_reducible rfl
            try simp only [Act.put, List.setIfInBounds_toArray, List.set_cons_zero, List.set_cons_succ]
            refine wpAnyH_take (i := 9) (oi := { dst := some 34, op := Op.slice 43 (Operand.tmp 32) (some (Operand.tmp 33)) none none, type := 43, pos := "l06_jar.go:264", after := #[{ on := 7, ground := Ground.data }, { on := 8, ground := Ground.data }], guard := none }) (v := ?vd9) rfl (by kernel_rfl) (by kernel_rfl) (by kernel_rfl) (fun _ _ _ h => h) (Or.inl ⟨by rfl, ?hyd9⟩) (by assumption) ?restd9
            case hyd9 =>
              intro w hSw
              (try dsimp only at hSw)
              go_simp
              try with_reducible rfl
            try simp only [Act.put, List.setIfInBounds_toArray, List.set_cons_zero, List.set_cons_succ]
            refine wpAnyH_ready (rs := [5]) (by kernel_rfl) (by simp) ?_
            refine AllReadyH.cons (o := { dst := some 30, op := Op.buildSlice 43 1 #[(0, Operand.tmp 29)], type := 43, pos := "l06_jar.go:264", after := #[{ on := 4, ground := Ground.data }], guard := none }) rfl (fun K hK => ?_) AllReadyH.nil
            go_simp
            (skip)
            try (go_wp2_with fail)
            refine hK.out _ _ ?_ (fun hH1 => ?_)
            · (try dsimp only)
              first | go_keep | (refine ⟨?_, ?_, ?_, ?_, ?_, ?_, ?_, ?_, ?_, ?_⟩ <;> assumption)
            clear hK K hH0
            try simp only [Act.put, List.setIfInBounds_toArray, List.set_cons_zero, List.set_cons_succ]
            refine wpAnyH_ready (rs := [6]) (by kernel_rfl) (by simp) ?_
            refine AllReadyH.cons (o := { dst := some 31, op := Op.call { callee := Callee.builtin Builtin.append, args := #[Operand.tmp 28, Operand.tmp 30], argTypes := #[43, 43] }, type := 43, pos := "l06_jar.go:264", after := #[{ on := 3, ground := Ground.data }, { on := 5, ground := Ground.data }], guard := none }) rfl (fun K hK => ?_) AllReadyH.nil
            (rw [if_pos (by rfl)]; refine wp_append_cut _ _ 43 rfl Wc.heap.size 90 i0 (.agg #[.string ⟨#[]⟩, .string ⟨#[]⟩, .string ⟨#[]⟩, .bool false, .string ⟨#[]⟩, .bool false, .int .i64 0, .string ⟨#[]⟩, .int .i64 0, .int .i64 0]) 10 120 Tryd.underlying43 hi hy0 hy1 hy2 rfl ⟨g, 0, none⟩ cap (by rfl) C1 hl1 (HD1.out _ ((Below.refl _ _).drew.alloc (by simp) _)) ⟨Wc.heap.size, 0, none⟩ 1 1 (ckVals ⟨na, va, ho, al, pa, se, mo, pt, un, ma⟩) (by rfl) rfl (World.news_of_block (cs := #[.string na, .string va, .string ho, .bool al, .string pa, .bool se, .int .i64 mo, .string pt, .int .i64 un, .int .i64 ma]) (t := 90) (fr := (0, 0)) (heap_alloc_new Wc.drew _)) (by decide) (by unfold maxLen; omega) (by omega) (by simp) ?_; intro cp6 w6 ho6 hg6; have A6 : Below Wc.heap.size Wc w6 := ((Below.refl _ _).drew.alloc (by simp) _).grown hg6 (by simp) (fun j hj => by cases hj); have O6 : Hid (World.ownsRow w6 Wc.heap.size 90 10 _ _ _) := ho6; have p0 : w6.cell? ⟨w.heap.size, 0, none⟩ = some (.string na) := ((bcell A6).1 _ _ hxc).trans xc0; have p1 : w6.cell? ⟨w.heap.size, 1, none⟩ = some (.string va) := ((bcell A6).1 _ _ hxc).trans xc1; have p2 : w6.cell? ⟨w.heap.size, 2, none⟩ = some (.string ho) := ((bcell A6).1 _ _ hxc).trans xc2; have p3 : w6.cell? ⟨w.heap.size, 3, none⟩ = some (.bool al) := ((bcell A6).1 _ _ hxc).trans xc3; have p4 : w6.cell? ⟨w.heap.size, 4, none⟩ = some (.string pa) := ((bcell A6).1 _ _ hxc).trans xc4; have p5 : w6.cell? ⟨w.heap.size, 5, none⟩ = some (.bool se) := ((bcell A6).1 _ _ hxc).trans xc5; have p6 : w6.cell? ⟨w.heap.size, 6, none⟩ = some (.int .i64 mo) := ((bcell A6).1 _ _ hxc).trans xc6; have p7 : w6.cell? ⟨w.heap.size, 7, none⟩ = some (.string pt) := ((bcell A6).1 _ _ hxc).trans xc7; have p8 : w6.cell? ⟨w.heap.size, 8, none⟩ = some (.int .i64 un) := ((bcell A6).1 _ _ hxc).trans xc8; have p9 : w6.cell? ⟨w.heap.size, 9, none⟩ = some (.int .i64 ma) := ((bcell A6).1 _ _ hxc).trans xc9; clear ho6 hg6)
            refine hK.out _ _ ?_ (fun hH2 => ?_)
            · (try dsimp only)
              first | go_keep | (refine ⟨?_, ?_, ?_, ?_, ?_, ?_, ?_, ?_, ?_, ?_⟩ <;> assumption)
            clear hK K hH1
            try simp only [Act.put, List.setIfInBounds_toArray, List.set_cons_zero, List.set_cons_succ]
            refine wpAnyH_ready (rs := [10]) (by kernel_rfl) (by simp) ?_
            refine AllReadyH.cons (o := { dst := some 35, op := Op.call { callee := Callee.builtin Builtin.append, args := #[Operand.tmp 31, Operand.tmp 34], argTypes := #[43, 43] }, type := 43, pos := "l06_jar.go:264", after := #[{ on := 6, ground := Ground.data }, { on := 9, ground := Ground.data }, { on := 6, ground := Ground.chain }], guard := none }) rfl (fun K hK => ?_) AllReadyH.nil
            (rw [if_pos (by rfl)]; refine wp_append_own _ _ _ 43 rfl Wc.heap.size 90 i0 (.agg #[.string ⟨#[]⟩, .string ⟨#[]⟩, .string ⟨#[]⟩, .bool false, .string ⟨#[]⟩, .bool false, .int .i64 0, .string ⟨#[]⟩, .int .i64 0, .int .i64 0]) 10 120 Tryd.underlying43 hi hy0 hy1 hy2 rfl (by decide) _ _ _ (by rfl) O6.out ⟨g, 0, none⟩ 0 0 [] (by rfl) rfl (by intro j u h; cases h) (by intro v h; cases h) (by unfold maxLen; omega) (by omega) A6.size ?_; intro v7 w7 ho7 hg7 hn7; have A7 : Below Wc.heap.size Wc w7 := A6.grown hg7 A6.size (fun j hj => own_base O6.out j hj); have O7 := ho7; have q0 : w7.cell? ⟨w.heap.size, 0, none⟩ = some (.string na) := ((bcell A7).1 _ _ hxc).trans xc0; have q1 : w7.cell? ⟨w.heap.size, 1, none⟩ = some (.string va) := ((bcell A7).1 _ _ hxc).trans xc1; have q2 : w7.cell? ⟨w.heap.size, 2, none⟩ = some (.string ho) := ((bcell A7).1 _ _ hxc).trans xc2; have q3 : w7.cell? ⟨w.heap.size, 3, none⟩ = some (.bool al) := ((bcell A7).1 _ _ hxc).trans xc3; have q4 : w7.cell? ⟨w.heap.size, 4, none⟩ = some (.string pa) := ((bcell A7).1 _ _ hxc).trans xc4; have q5 : w7.cell? ⟨w.heap.size, 5, none⟩ = some (.bool se) := ((bcell A7).1 _ _ hxc).trans xc5; have q6 : w7.cell? ⟨w.heap.size, 6, none⟩ = some (.int .i64 mo) := ((bcell A7).1 _ _ hxc).trans xc6; have q7 : w7.cell? ⟨w.heap.size, 7, none⟩ = some (.string pt) := ((bcell A7).1 _ _ hxc).trans xc7; have q8 : w7.cell? ⟨w.heap.size, 8, none⟩ = some (.int .i64 un) := ((bcell A7).1 _ _ hxc).trans xc8; have q9 : w7.cell? ⟨w.heap.size, 9, none⟩ = some (.int .i64 ma) := ((bcell A7).1 _ _ hxc).trans xc9; clear ho7 hg7 hn7)
            refine hK.out _ _ ?_ (fun hH3 => ?_)
            · (try dsimp only)
              first | go_keep | (refine ⟨?_, ?_, ?_, ?_, ?_, ?_, ?_, ?_, ?_, ?_⟩ <;> assumption)
            clear hK K hH2
            try simp only [Act.put, List.setIfInBounds_toArray, List.set_cons_zero, List.set_cons_succ]
            refine wpAnyH_take (i := 11) (oi := { dst := some 6, op := Op.assign (Operand.tmp 35), type := 43, pos := "l06_jar.go:264", after := #[{ on := 10, ground := Ground.data }, { on := 10, ground := Ground.chain }, { on := 0, ground := Ground.phase }, { on := 1, ground := Ground.phase }, { on := 2, ground := Ground.phase }, { on := 3, ground := Ground.phase }, { on := 4, ground := Ground.phase }, { on := 5, ground := Ground.phase }, { on := 6, ground := Ground.phase }, { on := 7, ground := Ground.phase }, { on := 8, ground := Ground.phase }, { on := 9, ground := Ground.phase }, { on := 10, ground := Ground.phase }], guard := none }) (v := ?vd11) rfl (by kernel_rfl) (by kernel_rfl) (by kernel_rfl) (fun _ _ _ h => h) (Or.inl ⟨by rfl, ?hyd11⟩) (by assumption) ?restd11
            case hyd11 =>
              intro w hSw
              (try dsimp only at hSw)
              go_simp
              try with_reducible rfl
            try simp only [Act.put, List.setIfInBounds_toArray, List.set_cons_zero, List.set_cons_succ]
            refine wpAnyH_done (by kernel_rfl) ?_ _
            all_goals go_wp2
            have SF : Hid (SliceC w7 w.heap.size v7 (H ++ (⟨na, va, ho, al, pa, se, mo, pt, un, ma⟩ : Ck) :: T)) := HOP.out _ _ _ BC.out.size (by have h := O7; rw [hz0, hC2]; simpa [List.append_assoc, hcl] using h)
            have BF : Hid (Below w.heap.size w w7) := BC.out.trans (A7.mono BC.out.size)
            go_ret
            exact ⟨_, rfl, SF.out, BF.out⟩
          · have k4 : ¬ (j + 1 = cap) := hcl
            go_upto_region 4 with fail
            refine wp_region_held_drew (S := (fun w' => w'.cell? ⟨w.heap.size, 0, none⟩ = some (.string na) ∧ w'.cell? ⟨w.heap.size, 1, none⟩ = some (.string va) ∧ w'.cell? ⟨w.heap.size, 2, none⟩ = some (.string ho) ∧ w'.cell? ⟨w.heap.size, 3, none⟩ = some (.bool al) ∧ w'.cell? ⟨w.heap.size, 4, none⟩ = some (.string pa) ∧ w'.cell? ⟨w.heap.size, 5, none⟩ = some (.bool se) ∧ w'.cell? ⟨w.heap.size, 6, none⟩ = some (.int .i64 mo) ∧ w'.cell? ⟨w.heap.size, 7, none⟩ = some (.string pt) ∧ w'.cell? ⟨w.heap.size, 8, none⟩ = some (.int .i64 un) ∧ w'.cell? ⟨w.heap.size, 9, none⟩ = some (.int .i64 ma))) (by kernel_rfl) ?_ (fun hH0 => ?_)
            · (try dsimp only)
              go_keep
            refine wpAnyH_take (i := 0) (oi := { dst := some 25, op := Op.move (Operand.tmp 0), type := 43, pos := "l06_jar.go:264", after := #[], guard := none }) (v := ?ve0) rfl (by kernel_rfl) (by kernel_rfl) (by kernel_rfl) (fun _ _ _ h => h) (Or.inl ⟨by rfl, ?hye0⟩) (by assumption) ?reste0
            case hye0 =>
              intro w hSw
              (try dsimp only at hSw)
              go_simp
              try with_reducible rfl
            try simp only [Act.put, List.setIfInBounds_toArray, List.set_cons_zero, List.set_cons_succ]
            refine wpAnyH_take (i := 1) (oi := { dst := some 26, op := Op.move (Operand.tmp 7), type := 3, pos := "l06_jar.go:264", after := #[], guard := none }) (v := ?ve1) rfl (by kernel_rfl) (by kernel_rfl) (by kernel_rfl) (fun _ _ _ h => h) (Or.inl ⟨by rfl, ?hye1⟩) (by assumption) ?reste1
            case hye1 =>
              intro w hSw
              (try dsimp only at hSw)
              go_simp
              try with_reducible rfl
            try simp only [Act.put, List.setIfInBounds_toArray, List.set_cons_zero, List.set_cons_succ]
            refine wpAnyH_take (i := 2) (oi := { dst := some 27, op := Op.move (Operand.tmp 7), type := 3, pos := "l06_jar.go:264", after := #[], guard := none }) (v := ?ve2) rfl (by kernel_rfl) (by kernel_rfl) (by kernel_rfl) (fun _ _ _ h => h) (Or.inl ⟨by rfl, ?hye2⟩) (by assumption) ?reste2
            case hye2 =>
              intro w hSw
              (try dsimp only at hSw)
              go_simp
              try with_reducible rfl
            try simp only [Act.put, List.setIfInBounds_toArray, List.set_cons_zero, List.set_cons_succ]
            refine wpAnyH_take (i := 3) (oi := { dst := some 28, op := Op.slice 43 (Operand.tmp 25) none (some (Operand.tmp 26)) (some (Operand.tmp 27)), type := 43, pos := "l06_jar.go:264", after := #[{ on := 0, ground := Ground.data }, { on := 1, ground := Ground.data }, { on := 2, ground := Ground.data }], guard := none }) (v := ?ve3) rfl (by kernel_rfl) (by kernel_rfl) (by kernel_rfl) (fun _ _ _ h => h) (Or.inl ⟨by rfl, ?hye3⟩) (by assumption) ?reste3
            case hye3 =>
              intro w hSw
              (try dsimp only at hSw)
              go_simp
              try with_reducible rfl
            try simp only [Act.put, List.setIfInBounds_toArray, List.set_cons_zero, List.set_cons_succ]
            refine wpAnyH_take (i := 4) (oi := { dst := some 29, op := Op.load 90 (Operand.tmp 4), type := 90, pos := "l06_jar.go:264", after := #[], guard := none }) (v := ?ve4) rfl (by kernel_rfl) (by kernel_rfl) (by kernel_rfl) (fun _ _ _ h => h) (Or.inl ⟨by rfl, ?hye4⟩) (by assumption) ?reste4
            case hye4 =>
              intro w hSw
              (try dsimp only at hSw)
              go_simp
              try with_reducible rfl
            try simp only [Act.put, List.setIfInBounds_toArray, List.set_cons_zero, List.set_cons_succ]
            refine wpAnyH_take (i := 7) (oi := { dst := some 32, op := Op.move (Operand.tmp 0), type := 43, pos := "l06_jar.go:264", after := #[], guard := none }) (v := ?ve7) rfl (by kernel_rfl) (by kernel_rfl) (by kernel_rfl) (fun _ _ _ h => h) (Or.inl ⟨by rfl, ?hye7⟩) (by assumption) ?reste7
            case hye7 =>
              intro w hSw
              (try dsimp only at hSw)
              go_simp
              try with_reducible rfl
            try simp only [Act.put, List.setIfInBounds_toArray, List.set_cons_zero, List.set_cons_succ]
            refine wpAnyH_take (i := 8) (oi := { dst := some 33, op := Op.move (Operand.tmp 7), type := 3, pos := "l06_jar.go:264", after := #[], guard := none }) (v := ?ve8) rfl (by kernel_rfl) (by kernel_rfl) (by kernel_rfl) (fun _ _ _ h => h) (Or.inl ⟨by rfl, ?hye8⟩) (by assumption) ?reste8
            case hye8 =>
              intro w hSw
              (try dsimp only at hSw)
              go_simp
              try with_reducible rfl
            try simp only [Act.put, List.setIfInBounds_toArray, List.set_cons_zero, List.set_cons_succ]
            refine wpAnyH_take (i := 9) (oi := { dst := some 34, op := Op.slice 43 (Operand.tmp 32) (some (Operand.tmp 33)) none none, type := 43, pos := "l06_jar.go:264", after := #[{ on := 7, ground := Ground.data }, { on := 8, ground := Ground.data }], guard := none }) (v := ?ve9) rfl (by kernel_rfl) (by kernel_rfl) (by kernel_rfl) (fun _ _ _ h => h) (Or.inl ⟨by rfl, ?hye9⟩) (by assumption) ?reste9
            case hye9 =>
              intro w hSw
              (try dsimp only at hSw)
              go_simp
              try with_reducible rfl
            try simp only [Act.put, List.setIfInBounds_toArray, List.set_cons_zero, List.set_cons_succ]
            refine wpAnyH_ready (rs := [5]) (by kernel_rfl) (by simp) ?_
            refine AllReadyH.cons (o := { dst := some 30, op := Op.buildSlice 43 1 #[(0, Operand.tmp 29)], type := 43, pos := "l06_jar.go:264", after := #[{ on := 4, ground := Ground.data }], guard := none }) rfl (fun K hK => ?_) AllReadyH.nil
            go_simp
            (skip)
            try (go_wp2_with fail)
            refine hK.out _ _ ?_ (fun hH1 => ?_)
            · (try dsimp only)
              first | go_keep | (refine ⟨?_, ?_, ?_, ?_, ?_, ?_, ?_, ?_, ?_, ?_⟩ <;> assumption)
            clear hK K hH0
            try simp only [Act.put, List.setIfInBounds_toArray, List.set_cons_zero, List.set_cons_succ]
            refine wpAnyH_ready (rs := [6]) (by kernel_rfl) (by simp) ?_
            refine AllReadyH.cons (o := { dst := some 31, op := Op.call { callee := Callee.builtin Builtin.append, args := #[Operand.tmp 28, Operand.tmp 30], argTypes := #[43, 43] }, type := 43, pos := "l06_jar.go:264", after := #[{ on := 3, ground := Ground.data }, { on := 5, ground := Ground.data }], guard := none }) rfl (fun K hK => ?_) AllReadyH.nil
            (rw [if_pos (by rfl)]; refine wp_append_cut _ _ 43 rfl Wc.heap.size 90 i0 (.agg #[.string ⟨#[]⟩, .string ⟨#[]⟩, .string ⟨#[]⟩, .bool false, .string ⟨#[]⟩, .bool false, .int .i64 0, .string ⟨#[]⟩, .int .i64 0, .int .i64 0]) 10 120 Tryd.underlying43 hi hy0 hy1 hy2 rfl ⟨g, 0, none⟩ (j + 1) (by rfl) C1 hl1 (HD1.out _ ((Below.refl _ _).drew.alloc (by simp) _)) ⟨Wc.heap.size, 0, none⟩ 1 1 (ckVals ⟨na, va, ho, al, pa, se, mo, pt, un, ma⟩) (by rfl) rfl (World.news_of_block (cs := #[.string na, .string va, .string ho, .bool al, .string pa, .bool se, .int .i64 mo, .string pt, .int .i64 un, .int .i64 ma]) (t := 90) (fr := (0, 0)) (heap_alloc_new Wc.drew _)) (by decide) (by unfold maxLen; omega) (by omega) (by simp) ?_; intro cp6 w6 ho6 hg6; have A6 : Below Wc.heap.size Wc w6 := ((Below.refl _ _).drew.alloc (by simp) _).grown hg6 (by simp) (fun j hj => by cases hj); have O6 : Hid (World.ownsRow w6 Wc.heap.size 90 10 _ _ _) := ho6; have p0 : w6.cell? ⟨w.heap.size, 0, none⟩ = some (.string na) := ((bcell A6).1 _ _ hxc).trans xc0; have p1 : w6.cell? ⟨w.heap.size, 1, none⟩ = some (.string va) := ((bcell A6).1 _ _ hxc).trans xc1; have p2 : w6.cell? ⟨w.heap.size, 2, none⟩ = some (.string ho) := ((bcell A6).1 _ _ hxc).trans xc2; have p3 : w6.cell? ⟨w.heap.size, 3, none⟩ = some (.bool al) := ((bcell A6).1 _ _ hxc).trans xc3; have p4 : w6.cell? ⟨w.heap.size, 4, none⟩ = some (.string pa) := ((bcell A6).1 _ _ hxc).trans xc4; have p5 : w6.cell? ⟨w.heap.size, 5, none⟩ = some (.bool se) := ((bcell A6).1 _ _ hxc).trans xc5; have p6 : w6.cell? ⟨w.heap.size, 6, none⟩ = some (.int .i64 mo) := ((bcell A6).1 _ _ hxc).trans xc6; have p7 : w6.cell? ⟨w.heap.size, 7, none⟩ = some (.string pt) := ((bcell A6).1 _ _ hxc).trans xc7; have p8 : w6.cell? ⟨w.heap.size, 8, none⟩ = some (.int .i64 un) := ((bcell A6).1 _ _ hxc).trans xc8; have p9 : w6.cell? ⟨w.heap.size, 9, none⟩ = some (.int .i64 ma) := ((bcell A6).1 _ _ hxc).trans xc9; clear ho6 hg6)
            refine hK.out _ _ ?_ (fun hH2 => ?_)
            · (try dsimp only)
              first | go_keep | (refine ⟨?_, ?_, ?_, ?_, ?_, ?_, ?_, ?_, ?_, ?_⟩ <;> assumption)
            clear hK K hH1
            try simp only [Act.put, List.setIfInBounds_toArray, List.set_cons_zero, List.set_cons_succ]
            refine wpAnyH_ready (rs := [10]) (by kernel_rfl) (by simp) ?_
            refine AllReadyH.cons (o := { dst := some 35, op := Op.call { callee := Callee.builtin Builtin.append, args := #[Operand.tmp 31, Operand.tmp 34], argTypes := #[43, 43] }, type := 43, pos := "l06_jar.go:264", after := #[{ on := 6, ground := Ground.data }, { on := 9, ground := Ground.data }, { on := 6, ground := Ground.chain }], guard := none }) rfl (fun K hK => ?_) AllReadyH.nil
            (rw [if_pos (by rfl)]; refine wp_append_own _ _ _ 43 rfl Wc.heap.size 90 i0 (.agg #[.string ⟨#[]⟩, .string ⟨#[]⟩, .string ⟨#[]⟩, .bool false, .string ⟨#[]⟩, .bool false, .int .i64 0, .string ⟨#[]⟩, .int .i64 0, .int .i64 0]) 10 120 Tryd.underlying43 hi hy0 hy1 hy2 rfl (by decide) _ _ _ (by rfl) O6.out ⟨g, (j + 1) * 10, none⟩ (M.length - (j + 1)) (cap - (j + 1)) C2 (by rfl) hl2 (HD2.out _ A6) o2 (by unfold maxLen; omega) (by omega) A6.size ?_; intro v7 w7 ho7 hg7 hn7; have A7 : Below Wc.heap.size Wc w7 := A6.grown hg7 A6.size (fun j hj => own_base O6.out j hj); have O7 := ho7; have q0 : w7.cell? ⟨w.heap.size, 0, none⟩ = some (.string na) := ((bcell A7).1 _ _ hxc).trans xc0; have q1 : w7.cell? ⟨w.heap.size, 1, none⟩ = some (.string va) := ((bcell A7).1 _ _ hxc).trans xc1; have q2 : w7.cell? ⟨w.heap.size, 2, none⟩ = some (.string ho) := ((bcell A7).1 _ _ hxc).trans xc2; have q3 : w7.cell? ⟨w.heap.size, 3, none⟩ = some (.bool al) := ((bcell A7).1 _ _ hxc).trans xc3; have q4 : w7.cell? ⟨w.heap.size, 4, none⟩ = some (.string pa) := ((bcell A7).1 _ _ hxc).trans xc4; have q5 : w7.cell? ⟨w.heap.size, 5, none⟩ = some (.bool se) := ((bcell A7).1 _ _ hxc).trans xc5; have q6 : w7.cell? ⟨w.heap.size, 6, none⟩ = some (.int .i64 mo) := ((bcell A7).1 _ _ hxc).trans xc6; have q7 : w7.cell? ⟨w.heap.size, 7, none⟩ = some (.string pt) := ((bcell A7).1 _ _ hxc).trans xc7; have q8 : w7.cell? ⟨w.heap.size, 8, none⟩ = some (.int .i64 un) := ((bcell A7).1 _ _ hxc).trans xc8; have q9 : w7.cell? ⟨w.heap.size, 9, none⟩ = some (.int .i64 ma) := ((bcell A7).1 _ _ hxc).trans xc9; clear ho7 hg7 hn7)
            refine hK.out _ _ ?_ (fun hH3 => ?_)
            · (try dsimp only)
              first | go_keep | (refine ⟨?_, ?_, ?_, ?_, ?_, ?_, ?_, ?_, ?_, ?_⟩ <;> assumption)
            clear hK K hH2
            try simp only [Act.put, List.setIfInBounds_toArray, List.set_cons_zero, List.set_cons_succ]
            refine wpAnyH_take (i := 11) (oi := { dst := some 6, op := Op.assign (Operand.tmp 35), type := 43, pos := "l06_jar.go:264", after := #[{ on := 10, ground := Ground.data }, { on := 10, ground := Ground.chain }, { on := 0, ground := Ground.phase }, { on := 1, ground := Ground.phase }, { on := 2, ground := Ground.phase }, { on := 3, ground := Ground.phase }, { on := 4, ground := Ground.phase }, { on := 5, ground := Ground.phase }, { on := 6, ground := Ground.phase }, { on := 7, ground := Ground.phase }, { on := 8, ground := Ground.phase }, { on := 9, ground := Ground.phase }, { on := 10, ground := Ground.phase }], guard := none }) (v := ?ve11) rfl (by kernel_rfl) (by kernel_rfl) (by kernel_rfl) (fun _ _ _ h => h) (Or.inl ⟨by rfl, ?hye11⟩) (by assumption) ?reste11
            case hye11 =>
              intro w hSw
              (try dsimp only at hSw)
              go_simp
              try with_reducible rfl
            try simp only [Act.put, List.setIfInBounds_toArray, List.set_cons_zero, List.set_cons_succ]
            refine wpAnyH_done (by kernel_rfl) ?_ _
            all_goals go_wp2
            have SF : Hid (SliceC w7 w.heap.size v7 (H ++ (⟨na, va, ho, al, pa, se, mo, pt, un, ma⟩ : Ck) :: T)) := HOP.out _ _ _ BC.out.size (by have h := O7; simpa [List.append_assoc] using h)
            have BF : Hid (Below w.heap.size w w7) := BC.out.trans (A7.mono BC.out.size)
            go_ret
            exact ⟨_, rfl, SF.out, BF.out⟩
      · obtain rfl : k = 0 := by omega
        obtain rfl : h = 0 := by omega
        have BC : Hid (Below w.heap.size w wr.drew) := BR.out.drew
        have hxc : w.heap.size < wr.drew.heap.size := hxr
        have xc0 : wr.drew.cell? ⟨w.heap.size, 0, none⟩ = some (.string na) := x0
        have xc1 : wr.drew.cell? ⟨w.heap.size, 1, none⟩ = some (.string va) := x1
        have xc2 : wr.drew.cell? ⟨w.heap.size, 2, none⟩ = some (.string ho) := x2
        have xc3 : wr.drew.cell? ⟨w.heap.size, 3, none⟩ = some (.bool al) := x3
        have xc4 : wr.drew.cell? ⟨w.heap.size, 4, none⟩ = some (.string pa) := x4
        have xc5 : wr.drew.cell? ⟨w.heap.size, 5, none⟩ = some (.bool se) := x5
        have xc6 : wr.drew.cell? ⟨w.heap.size, 6, none⟩ = some (.int .i64 mo) := x6
        have xc7 : wr.drew.cell? ⟨w.heap.size, 7, none⟩ = some (.string pt) := x7
        have xc8 : wr.drew.cell? ⟨w.heap.size, 8, none⟩ = some (.int .i64 un) := x8
        have xc9 : wr.drew.cell? ⟨w.heap.size, 9, none⟩ = some (.int .i64 ma) := x9
        clear KN HLo HHi
        go_upto_region 2 with fail
        refine wp_region_held_drew (S := (fun w' => w'.cell? ⟨w.heap.size, 0, none⟩ = some (.string na) ∧ w'.cell? ⟨w.heap.size, 1, none⟩ = some (.string va) ∧ w'.cell? ⟨w.heap.size, 2, none⟩ = some (.string ho) ∧ w'.cell? ⟨w.heap.size, 3, none⟩ = some (.bool al) ∧ w'.cell? ⟨w.heap.size, 4, none⟩ = some (.string pa) ∧ w'.cell? ⟨w.heap.size, 5, none⟩ = some (.bool se) ∧ w'.cell? ⟨w.heap.size, 6, none⟩ = some (.int .i64 mo) ∧ w'.cell? ⟨w.heap.size, 7, none⟩ = some (.string pt) ∧ w'.cell? ⟨w.heap.size, 8, none⟩ = some (.int .i64 un) ∧ w'.cell? ⟨w.heap.size, 9, none⟩ = some (.int .i64 ma))) (by kernel_rfl) ?_ (fun hH0 => ?_)
        · (try dsimp only)
          go_keep
        refine wpAnyH_take (i := 0) (oi := { dst := some 10, op := Op.move (Operand.tmp 7), type := 3, pos := "l06_jar.go:259", after := #[], guard := none }) (v := ?vc0) rfl (by kernel_rfl) (by kernel_rfl) (by kernel_rfl) (fun _ _ _ h => h) (Or.inl ⟨by rfl, ?hyc0⟩) (by assumption) ?restc0
        case hyc0 =>
          intro w hSw
          (try dsimp only at hSw)
          go_simp
          try with_reducible rfl
        try simp only [Act.put, List.setIfInBounds_toArray, List.set_cons_zero, List.set_cons_succ]
        refine wpAnyH_take (i := 1) (oi := { dst := some 11, op := Op.binOp BinOp.gtr 3 (Operand.tmp 10) (Operand.const (Value.int IntKind.i64 0)) 3, type := 4, pos := "l06_jar.go:259", after := #[{ on := 0, ground := Ground.data }], guard := none }) (v := ?vc1) rfl (by kernel_rfl) (by kernel_rfl) (by kernel_rfl) (fun _ _ _ h => h) (Or.inl ⟨by rfl, ?hyc1⟩) (by assumption) ?restc1
        case hyc1 =>
          intro w hSw
          (try dsimp only at hSw)
          go_simp
          try with_reducible rfl
        try simp only [Act.put, List.setIfInBounds_toArray, List.set_cons_zero, List.set_cons_succ]
        refine wpAnyH_take (i := 2) (oi := { dst := some 12, op := Op.move (Operand.tmp 11), type := 4, pos := "l06_jar.go:259", after := #[{ on := 1, ground := Ground.data }], guard := none }) (v := ?vc2) rfl (by kernel_rfl) (by kernel_rfl) (by kernel_rfl) (fun _ _ _ h => h) (Or.inl ⟨by rfl, ?hyc2⟩) (by assumption) ?restc2
        case hyc2 =>
          intro w hSw
          (try dsimp only at hSw)
          go_simp
          try with_reducible rfl
        try simp only [Act.put, List.setIfInBounds_toArray, List.set_cons_zero, List.set_cons_succ]
        refine wpAnyH_take (i := 3) (oi := { dst := some 13, op := Op.move (Operand.tmp 2), type := 97, pos := "l06_jar.go:259", after := #[{ on := 2, ground := Ground.guard }], guard := some (2, true) }) (v := undef) rfl (by kernel_rfl) (by kernel_rfl) (by kernel_rfl) (fun _ _ _ h => h) (Or.inr ⟨by rfl, rfl⟩) (by assumption) ?_
        try simp only [Act.put, List.setIfInBounds_toArray, List.set_cons_zero, List.set_cons_succ]
        refine wpAnyH_take (i := 4) (oi := { dst := some 14, op := Op.move (Operand.tmp 0), type := 43, pos := "l06_jar.go:259", after := #[{ on := 2, ground := Ground.guard }], guard := some (2, true) }) (v := undef) rfl (by kernel_rfl) (by kernel_rfl) (by kernel_rfl) (fun _ _ _ h => h) (Or.inr ⟨by rfl, rfl⟩) (by assumption) ?_
        try simp only [Act.put, List.setIfInBounds_toArray, List.set_cons_zero, List.set_cons_succ]
        refine wpAnyH_take (i := 5) (oi := { dst := some 15, op := Op.move (Operand.tmp 7), type := 3, pos := "l06_jar.go:259", after := #[{ on := 2, ground := Ground.guard }], guard := some (2, true) }) (v := undef) rfl (by kernel_rfl) (by kernel_rfl) (by kernel_rfl) (fun _ _ _ h => h) (Or.inr ⟨by rfl, rfl⟩) (by assumption) ?_
        try simp only [Act.put, List.setIfInBounds_toArray, List.set_cons_zero, List.set_cons_succ]
        refine wpAnyH_take (i := 6) (oi := { dst := some 16, op := Op.binOp BinOp.sub 3 (Operand.tmp 15) (Operand.const (Value.int IntKind.i64 1)) 3, type := 3, pos := "l06_jar.go:259", after := #[{ on := 5, ground := Ground.data }, { on := 2, ground := Ground.guard }], guard := some (2, true) }) (v := undef) rfl (by kernel_rfl) (by kernel_rfl) (by kernel_rfl) (fun _ _ _ h => h) (Or.inr ⟨by rfl, rfl⟩) (by assumption) ?_
        try simp only [Act.put, List.setIfInBounds_toArray, List.set_cons_zero, List.set_cons_succ]
        refine wpAnyH_take (i := 7) (oi := { dst := some 17, op := Op.indexAddr 43 (Operand.tmp 14) (Operand.tmp 16), type := 0, pos := "l06_jar.go:259", after := #[{ on := 4, ground := Ground.data }, { on := 6, ground := Ground.data }, { on := 2, ground := Ground.guard }], guard := some (2, true) }) (v := undef) rfl (by kernel_rfl) (by kernel_rfl) (by kernel_rfl) (fun _ _ _ h => h) (Or.inr ⟨by rfl, rfl⟩) (by assumption) ?_
        try simp only [Act.put, List.setIfInBounds_toArray, List.set_cons_zero, List.set_cons_succ]
        refine wpAnyH_take (i := 8) (oi := { dst := some 18, op := Op.load 90 (Operand.tmp 17), type := 90, pos := "l06_jar.go:259", after := #[{ on := 7, ground := Ground.data }, { on := 2, ground := Ground.guard }], guard := some (2, true) }) (v := undef) rfl (by kernel_rfl) (by kernel_rfl) (by kernel_rfl) (fun _ _ _ h => h) (Or.inr ⟨by rfl, rfl⟩) (by assumption) ?_
        try simp only [Act.put, List.setIfInBounds_toArray, List.set_cons_zero, List.set_cons_succ]
        refine wpAnyH_take (i := 9) (oi := { dst := some 19, op := Op.load 90 (Operand.tmp 4), type := 90, pos := "l06_jar.go:259", after := #[{ on := 2, ground := Ground.guard }], guard := some (2, true) }) (v := undef) rfl (by kernel_rfl) (by kernel_rfl) (by kernel_rfl) (fun _ _ _ h => h) (Or.inr ⟨by rfl, rfl⟩) (by assumption) ?_
        try simp only [Act.put, List.setIfInBounds_toArray, List.set_cons_zero, List.set_cons_succ]
        refine wpAnyH_take (i := 10) (oi := { dst := some 20, op := Op.call { callee := Callee.value (Operand.tmp 13), args := #[Operand.tmp 18, Operand.tmp 19], argTypes := #[90, 90] }, type := 3, pos := "l06_jar.go:259", after := #[{ on := 3, ground := Ground.data }, { on := 8, ground := Ground.data }, { on := 9, ground := Ground.data }, { on := 2, ground := Ground.chain }, { on := 2, ground := Ground.guard }], guard := some (2, true) }) (v := undef) rfl (by kernel_rfl) (by kernel_rfl) (by kernel_rfl) (fun _ _ _ h => h) (Or.inr ⟨by rfl, rfl⟩) (by assumption) ?_
        try simp only [Act.put, List.setIfInBounds_toArray, List.set_cons_zero, List.set_cons_succ]
        refine wpAnyH_take (i := 11) (oi := { dst := some 21, op := Op.binOp BinOp.gtr 3 (Operand.tmp 20) (Operand.const (Value.int IntKind.i64 0)) 3, type := 4, pos := "l06_jar.go:259", after := #[{ on := 10, ground := Ground.data }, { on := 2, ground := Ground.guard }], guard := some (2, true) }) (v := undef) rfl (by kernel_rfl) (by kernel_rfl) (by kernel_rfl) (fun _ _ _ h => h) (Or.inr ⟨by rfl, rfl⟩) (by assumption) ?_
        try simp only [Act.put, List.setIfInBounds_toArray, List.set_cons_zero, List.set_cons_succ]
        refine wpAnyH_take (i := 12) (oi := { dst := some 22, op := Op.pick (Operand.tmp 12) (Operand.tmp 21) (Operand.const (Value.bool false)), type := 4, pos := "l06_jar.go:259", after := #[{ on := 2, ground := Ground.data }, { on := 11, ground := Ground.data }], guard := none }) (v := ?vc12) rfl (by kernel_rfl) (by kernel_rfl) (by kernel_rfl) (fun _ _ _ h => h) (Or.inl ⟨by rfl, ?hyc12⟩) (by assumption) ?restc12
        case hyc12 =>
          intro w hSw
          (try dsimp only at hSw)
          go_simp
          try with_reducible rfl
        try simp only [Act.put, List.setIfInBounds_toArray, List.set_cons_zero, List.set_cons_succ]
        refine wpAnyH_done (by kernel_rfl) ?_ _
        generalize hwc : wr.drew = Wc at *
        clear hwc
        have HD1 : Hid (∀ W, Below Wc.heap.size Wc W → ∀ j u, C1[j]? = some u → W.cell? ((⟨g, 0, none⟩ : Addr).add j) = some u) := fun W hb => HC1.out W (BC.out.trans (hb.mono BC.out.size))
        have HD2 : Hid (∀ W, Below Wc.heap.size Wc W → ∀ i u, C2[i]? = some u → W.cell? ((⟨g, 0, none⟩ : Addr).add i) = some u) := fun W hb => by simpa using HC2.out W (BC.out.trans (hb.mono BC.out.size))
        clear HC1 HC2
        have kc : (0 : Int) ≤ cap := by omega
        have k4 : ¬ (0 = cap) := by omega
        go_upto_region 4 with fail
        refine wp_region_held_drew (S := (fun w' => w'.cell? ⟨w.heap.size, 0, none⟩ = some (.string na) ∧ w'.cell? ⟨w.heap.size, 1, none⟩ = some (.string va) ∧ w'.cell? ⟨w.heap.size, 2, none⟩ = some (.string ho) ∧ w'.cell? ⟨w.heap.size, 3, none⟩ = some (.bool al) ∧ w'.cell? ⟨w.heap.size, 4, none⟩ = some (.string pa) ∧ w'.cell? ⟨w.heap.size, 5, none⟩ = some (.bool se) ∧ w'.cell? ⟨w.heap.size, 6, none⟩ = some (.int .i64 mo) ∧ w'.cell? ⟨w.heap.size, 7, none⟩ = some (.string pt) ∧ w'.cell? ⟨w.heap.size, 8, none⟩ = some (.int .i64 un) ∧ w'.cell? ⟨w.heap.size, 9, none⟩ = some (.int .i64 ma))) (by kernel_rfl) ?_ (fun hH0 => ?_)
        · (try dsimp only)
          go_keep
        refine wpAnyH_take (i := 0) (oi := { dst := some 25, op := Op.move (Operand.tmp 0), type := 43, pos := "l06_jar.go:264", after := #[], guard := none }) (v := ?vf0) rfl (by kernel_rfl) (by kernel_rfl) (by kernel_rfl) (fun _ _ _ h => h) (Or.inl ⟨by rfl, ?hyf0⟩) (by assumption) ?restf0
        case hyf0 =>
          intro w hSw
          (try dsimp only at hSw)
          go_simp
          try with_reducible rfl
        try simp only [Act.put, List.setIfInBounds_toArray, List.set_cons_zero, List.set_cons_succ]
        refine wpAnyH_take (i := 1) (oi := { dst := some 26, op := Op.move (Operand.tmp 7), type := 3, pos := "l06_jar.go:264", after := #[], guard := none }) (v := ?vf1) rfl (by kernel_rfl) (by kernel_rfl) (by kernel_rfl) (fun _ _ _ h => h) (Or.inl ⟨by rfl, ?hyf1⟩) (by assumption) ?restf1
        case hyf1 =>
          intro w hSw
          (try dsimp only at hSw)
          go_simp
          try with_reducible rfl
        try simp only [Act.put, List.setIfInBounds_toArray, List.set_cons_zero, List.set_cons_succ]
        refine wpAnyH_take (i := 2) (oi := { dst := some 27, op := Op.move (Operand.tmp 7), type := 3, pos := "l06_jar.go:264", after := #[], guard := none }) (v := ?vf2) rfl (by kernel_rfl) (by kernel_rfl) (by kernel_rfl) (fun _ _ _ h => h) (Or.inl ⟨by rfl, ?hyf2⟩) (by assumption) ?restf2
        case hyf2 =>
          intro w hSw
          (try dsimp only at hSw)
          go_simp
          try with_reducible rfl
        try simp only [Act.put, List.setIfInBounds_toArray, List.set_cons_zero, List.set_cons_succ]
        refine wpAnyH_take (i := 3) (oi := { dst := some 28, op := Op.slice 43 (Operand.tmp 25) none (some (Operand.tmp 26)) (some (Operand.tmp 27)), type := 43, pos := "l06_jar.go:264", after := #[{ on := 0, ground := Ground.data }, { on := 1, ground := Ground.data }, { on := 2, ground := Ground.data }], guard := none }) (v := ?vf3) rfl (by kernel_rfl) (by kernel_rfl) (by kernel_rfl) (fun _ _ _ h => h) (Or.inl ⟨by rfl, ?hyf3⟩) (by assumption) ?restf3
        case hyf3 =>
          intro w hSw
          (try dsimp only at hSw)
          go_simp
          try with_reducible rfl
        try simp only [Act.put, List.setIfInBounds_toArray, List.set_cons_zero, List.set_cons_succ]
        refine wpAnyH_take (i := 4) (oi := { dst := some 29, op := Op.load 90 (Operand.tmp 4), type := 90, pos := "l06_jar.go:264", after := #[], guard := none }) (v := ?vf4) rfl (by kernel_rfl) (by kernel_rfl) (by kernel_rfl) (fun _ _ _ h => h) (Or.inl ⟨by rfl, ?hyf4⟩) (by assumption) ?restf4
        case hyf4 =>
          intro w hSw
          (try dsimp only at hSw)
          go_simp
          try with_reducible rfl
        try simp only [Act.put, List.setIfInBounds_toArray, List.set_cons_zero, List.set_cons_succ]
        refine wpAnyH_take (i := 7) (oi := { dst := some 32, op := Op.move (Operand.tmp 0), type := 43, pos := "l06_jar.go:264", after := #[], guard := none }) (v := ?vf7) rfl (by kernel_rfl) (by kernel_rfl) (by kernel_rfl) (fun _ _ _ h => h) (Or.inl ⟨by rfl, ?hyf7⟩) (by assumption) ?restf7
        case hyf7 =>
          intro w hSw
          (try dsimp only at hSw)
          go_simp
          try with_reducible rfl
        try simp only [Act.put, List.setIfInBounds_toArray, List.set_cons_zero, List.set_cons_succ]
        refine wpAnyH_take (i := 8) (oi := { dst := some 33, op := Op.move (Operand.tmp 7), type := 3, pos := "l06_jar.go:264", after := #[], guard := none }) (v := ?vf8) rfl (by kernel_rfl) (by kernel_rfl) (by kernel_rfl) (fun _ _ _ h => h) (Or.inl ⟨by rfl, ?hyf8⟩) (by assumption) ?restf8
        case hyf8 =>
          intro w hSw
          (try dsimp only at hSw)
          go_simp
          try with_reducible rfl
        try simp only [Act.put, List.setIfInBounds_toArray, List.set_cons_zero, List.set_cons_succ]
        refine wpAnyH_take (i := 9) (oi := { dst := some 34, op := Op.slice 43 (Operand.tmp 32) (some (Operand.tmp 33)) none none, type := 43, pos := "l06_jar.go:264", after := #[{ on := 7, ground := Ground.data }, { on := 8, ground := Ground.data }], guard := none }) (v := ?vf9) rfl (by kernel_rfl) (by kernel_rfl) (by kernel_rfl) (fun _ _ _ h => h) (Or.inl ⟨by rfl, ?hyf9⟩) (by assumption) ?restf9
        case hyf9 =>
          intro w hSw
          (try dsimp only at hSw)
          go_simp
          try with_reducible rfl
        try simp only [Act.put, List.setIfInBounds_toArray, List.set_cons_zero, List.set_cons_succ]
        refine wpAnyH_ready (rs := [5]) (by kernel_rfl) (by simp) ?_
        refine AllReadyH.cons (o := { dst := some 30, op := Op.buildSlice 43 1 #[(0, Operand.tmp 29)], type := 43, pos := "l06_jar.go:264", after := #[{ on := 4, ground := Ground.data }], guard := none }) rfl (fun K hK => ?_) AllReadyH.nil
        go_simp
        (skip)
        try (go_wp2_with fail)
        refine hK.out _ _ ?_ (fun hH1 => ?_)
        · (try dsimp only)
          first | go_keep | (refine ⟨?_, ?_, ?_, ?_, ?_, ?_, ?_, ?_, ?_, ?_⟩ <;> assumption)
        clear hK K hH0
        try simp only [Act.put, List.setIfInBounds_toArray, List.set_cons_zero, List.set_cons_succ]
        refine wpAnyH_ready (rs := [6]) (by kernel_rfl) (by simp) ?_
        refine AllReadyH.cons (o := { dst := some 31, op := Op.call { callee := Callee.builtin Builtin.append, args := #[Operand.tmp 28, Operand.tmp 30], argTypes := #[43, 43] }, type := 43, pos := "l06_jar.go:264", after := #[{ on := 3, ground := Ground.data }, { on := 5, ground := Ground.data }], guard := none }) rfl (fun K hK => ?_) AllReadyH.nil
        (rw [if_pos (by rfl)]; refine wp_append_cut _ _ 43 rfl Wc.heap.size 90 i0 (.agg #[.string ⟨#[]⟩, .string ⟨#[]⟩, .string ⟨#[]⟩, .bool false, .string ⟨#[]⟩, .bool false, .int .i64 0, .string ⟨#[]⟩, .int .i64 0, .int .i64 0]) 10 120 Tryd.underlying43 hi hy0 hy1 hy2 rfl ⟨g, 0, none⟩ 0 (by rfl) C1 hl1 (HD1.out _ ((Below.refl _ _).drew.alloc (by simp) _)) ⟨Wc.heap.size, 0, none⟩ 1 1 (ckVals ⟨na, va, ho, al, pa, se, mo, pt, un, ma⟩) (by rfl) rfl (World.news_of_block (cs := #[.string na, .string va, .string ho, .bool al, .string pa, .bool se, .int .i64 mo, .string pt, .int .i64 un, .int .i64 ma]) (t := 90) (fr := (0, 0)) (heap_alloc_new Wc.drew _)) (by decide) (by unfold maxLen; omega) (by omega) (by simp) ?_; intro cp6 w6 ho6 hg6; have A6 : Below Wc.heap.size Wc w6 := ((Below.refl _ _).drew.alloc (by simp) _).grown hg6 (by simp) (fun j hj => by cases hj); have O6 : Hid (World.ownsRow w6 Wc.heap.size 90 10 _ _ _) := ho6; have p0 : w6.cell? ⟨w.heap.size, 0, none⟩ = some (.string na) := ((bcell A6).1 _ _ hxc).trans xc0; have p1 : w6.cell? ⟨w.heap.size, 1, none⟩ = some (.string va) := ((bcell A6).1 _ _ hxc).trans xc1; have p2 : w6.cell? ⟨w.heap.size, 2, none⟩ = some (.string ho) := ((bcell A6).1 _ _ hxc).trans xc2; have p3 : w6.cell? ⟨w.heap.size, 3, none⟩ = some (.bool al) := ((bcell A6).1 _ _ hxc).trans xc3; have p4 : w6.cell? ⟨w.heap.size, 4, none⟩ = some (.string pa) := ((bcell A6).1 _ _ hxc).trans xc4; have p5 : w6.cell? ⟨w.heap.size, 5, none⟩ = some (.bool se) := ((bcell A6).1 _ _ hxc).trans xc5; have p6 : w6.cell? ⟨w.heap.size, 6, none⟩ = some (.int .i64 mo) := ((bcell A6).1 _ _ hxc).trans xc6; have p7 : w6.cell? ⟨w.heap.size, 7, none⟩ = some (.string pt) := ((bcell A6).1 _ _ hxc).trans xc7; have p8 : w6.cell? ⟨w.heap.size, 8, none⟩ = some (.int .i64 un) := ((bcell A6).1 _ _ hxc).trans xc8; have p9 : w6.cell? ⟨w.heap.size, 9, none⟩ = some (.int .i64 ma) := ((bcell A6).1 _ _ hxc).trans xc9; clear ho6 hg6)
        refine hK.out _ _ ?_ (fun hH2 => ?_)
        · (try dsimp only)
          first | go_keep | (refine ⟨?_, ?_, ?_, ?_, ?_, ?_, ?_, ?_, ?_, ?_⟩ <;> assumption)
        clear hK K hH1
        try simp only [Act.put, List.setIfInBounds_toArray, List.set_cons_zero, List.set_cons_succ]
        refine wpAnyH_ready (rs := [10]) (by kernel_rfl) (by simp) ?_
        refine AllReadyH.cons (o := { dst := some 35, op := Op.call { callee := Callee.builtin Builtin.append, args := #[Operand.tmp 31, Operand.tmp 34], argTypes := #[43, 43] }, type := 43, pos := "l06_jar.go:264", after := #[{ on := 6, ground := Ground.data }, { on := 9, ground := Ground.data }, { on := 6, ground := Ground.chain }], guard := none }) rfl (fun K hK => ?_) AllReadyH.nil
        (rw [if_pos (by rfl)]; refine wp_append_own _ _ _ 43 rfl Wc.heap.size 90 i0 (.agg #[.string ⟨#[]⟩, .string ⟨#[]⟩, .string ⟨#[]⟩, .bool false, .string ⟨#[]⟩, .bool false, .int .i64 0, .string ⟨#[]⟩, .int .i64 0, .int .i64 0]) 10 120 Tryd.underlying43 hi hy0 hy1 hy2 rfl (by decide) _ _ _ (by rfl) O6.out ⟨g, 0, none⟩ M.length cap C2 (by rfl) hl2 (HD2.out _ A6) o2 (by unfold maxLen; omega) (by omega) A6.size ?_; intro v7 w7 ho7 hg7 hn7; have A7 : Below Wc.heap.size Wc w7 := A6.grown hg7 A6.size (fun j hj => own_base O6.out j hj); have O7 := ho7; have q0 : w7.cell? ⟨w.heap.size, 0, none⟩ = some (.string na) := ((bcell A7).1 _ _ hxc).trans xc0; have q1 : w7.cell? ⟨w.heap.size, 1, none⟩ = some (.string va) := ((bcell A7).1 _ _ hxc).trans xc1; have q2 : w7.cell? ⟨w.heap.size, 2, none⟩ = some (.string ho) := ((bcell A7).1 _ _ hxc).trans xc2; have q3 : w7.cell? ⟨w.heap.size, 3, none⟩ = some (.bool al) := ((bcell A7).1 _ _ hxc).trans xc3; have q4 : w7.cell? ⟨w.heap.size, 4, none⟩ = some (.string pa) := ((bcell A7).1 _ _ hxc).trans xc4; have q5 : w7.cell? ⟨w.heap.size, 5, none⟩ = some (.bool se) := ((bcell A7).1 _ _ hxc).trans xc5; have q6 : w7.cell? ⟨w.heap.size, 6, none⟩ = some (.int .i64 mo) := ((bcell A7).1 _ _ hxc).trans xc6; have q7 : w7.cell? ⟨w.heap.size, 7, none⟩ = some (.string pt) := ((bcell A7).1 _ _ hxc).trans xc7; have q8 : w7.cell? ⟨w.heap.size, 8, none⟩ = some (.int .i64 un) := ((bcell A7).1 _ _ hxc).trans xc8; have q9 : w7.cell? ⟨w.heap.size, 9, none⟩ = some (.int .i64 ma) := ((bcell A7).1 _ _ hxc).trans xc9; clear ho7 hg7 hn7)
        refine hK.out _ _ ?_ (fun hH3 => ?_)
        · (try dsimp only)
          first | go_keep | (refine ⟨?_, ?_, ?_, ?_, ?_, ?_, ?_, ?_, ?_, ?_⟩ <;> assumption)
        clear hK K hH2
        try simp only [Act.put, List.setIfInBounds_toArray, List.set_cons_zero, List.set_cons_succ]
        refine wpAnyH_take (i := 11) (oi := { dst := some 6, op := Op.assign (Operand.tmp 35), type := 43, pos := "l06_jar.go:264", after := #[{ on := 10, ground := Ground.data }, { on := 10, ground := Ground.chain }, { on := 0, ground := Ground.phase }, { on := 1, ground := Ground.phase }, { on := 2, ground := Ground.phase }, { on := 3, ground := Ground.phase }, { on := 4, ground := Ground.phase }, { on := 5, ground := Ground.phase }, { on := 6, ground := Ground.phase }, { on := 7, ground := Ground.phase }, { on := 8, ground := Ground.phase }, { on := 9, ground := Ground.phase }, { on := 10, ground := Ground.phase }], guard := none }) (v := ?vf11) rfl (by kernel_rfl) (by kernel_rfl) (by kernel_rfl) (fun _ _ _ h => h) (Or.inl ⟨by rfl, ?hyf11⟩) (by assumption) ?restf11
        case hyf11 =>
          intro w hSw
          (try dsimp only at hSw)
          go_simp
          try with_reducible rfl
        try simp only [Act.put, List.setIfInBounds_toArray, List.set_cons_zero, List.set_cons_succ]
        refine wpAnyH_done (by kernel_rfl) ?_ _
        all_goals go_wp2
        have SF : Hid (SliceC w7 w.heap.size v7 (H ++ (⟨na, va, ho, al, pa, se, mo, pt, un, ma⟩ : Ck) :: T)) := HOP.out _ _ _ BC.out.size (by have h := O7; simpa [List.append_assoc] using h)
        have BF : Hid (Below w.heap.size w w7) := BC.out.trans (A7.mono BC.out.size)
        go_ret
        exact ⟨_, rfl, SF.out, BF.out⟩
end Go.Proofs.YtimmoclemcnhnaaDoor

/- The walk of the program's request.reaches. -/
namespace Go.Proofs.YtimmoclemcnhnaaDoor
open Go.RowKit

/-- what is asked for, as the program's request -/
def rqV (sc uh : ByteArray) (po : Int) (up part : ByteArray) (wide near : Bool) (now : Int) : Value := .agg #[.string sc, .string uh, .int .i64 po, .string up, .string part, .bool wide, .bool near, .int .i64 now]
/-- it comes out of a page in which the cookie is to be had -/
def reachB (c : Ck) (part : ByteArray) (wide near : Bool) : Bool := if c.pt.toList.isEmpty = true then near || (wide && (c.mo == 2)) else c.pt.toList == part.toList
set_option maxRecDepth 10000 in
set_option maxHeartbeats 2000000 in
theorem reaches_any (sc uh : ByteArray) (po : Int) (up part : ByteArray) (wide near : Bool) (now : Int) (c : Ck) (w : World) :
    Calls Tryd.prog 130 #[rqV sc uh po up part wide near now, ckV c] w fun e w' => e = .returned (.bool (reachB c part wide near)) ∧ Below w.heap.size w w' := by
  have HN : Hid (reachB c part wide near = if c.pt.toList.isEmpty = true then near || (wide && (c.mo == 2)) else c.pt.toList == part.toList) := rfl
  have HB : Hid (∀ x y : Obj, Below w.heap.size w ((w.alloc x).alloc y)) := fun x y => ((Below.refl _ _).alloc (Nat.le_refl _) _).alloc (by simp) _
  generalize reachB c part wide near = R at *
  obtain ⟨na, va, ho, al, pa, se, mo, pt, un, ma⟩ := c
  unfold ckV rqV
  dsimp only at HN ⊢
  cases he : pt.toList.isEmpty with
  | false =>
    have HR : Hid (R = (pt.toList == part.toList)) := by show _ = _; rw [HN.out, he]; rfl
    clear HN
    go_enter Tryd.func130, Tryd.ntmps130
    go_wp2
    go_ret
    exact ⟨ret_bool HR.out.symm, HB.out _ _⟩
  | true =>
    have HR : Hid (R = (near || (wide && (mo == 2)))) := by show _ = _; rw [HN.out, he]; rfl
    clear HN
    cases near with
    | true =>
      have HR1 : Hid (R = true) := by show _ = _; rw [HR.out]; rfl
      go_enter Tryd.func130, Tryd.ntmps130
      go_wp2
      go_ret
      exact ⟨ret_bool HR1.out.symm, HB.out _ _⟩
    | false =>
      cases wide with
      | false =>
        have HR1 : Hid (R = false) := by show _ = _; rw [HR.out]; rfl
        go_enter Tryd.func130, Tryd.ntmps130
        go_wp2
        go_ret
        exact ⟨ret_bool HR1.out.symm, HB.out _ _⟩
      | true =>
        have HR1 : Hid (R = (mo == 2)) := by show _ = _; rw [HR.out]; rfl
        go_enter Tryd.func130, Tryd.ntmps130
        go_wp2
        go_ret
        exact ⟨ret_bool HR1.out.symm, HB.out _ _⟩
end Go.Proofs.YtimmoclemcnhnaaDoor
