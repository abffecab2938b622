/- 20 of this claim's texts, one behind the other. -/
import Derived.Test.YtfoekelhcmlagaaDoorPart1
import Derived.Lib.SplitLaws
import Derived.Test.YtfoekelhcmlagaaDoorShelf
import Derived.Lib.IndexAny
import Derived.Deep.LoopGhost
import Derived.WalkKit
import Derived.WalkSpells
import Derived.WalkLawsBesides
import Derived.Laws.RangeAny
import Derived.Maps.AppendAt
import Derived.Test.YtfoekelhcmlagaaDoorPart3
import Derived.Test.YtfoekelhcmlagaaDoorPart2
import Derived.Lib.Join
import Derived.Shelf.Strings.OnBuilder
/- What the library's Split cuts a text into at a byte is splitB's list. -/
namespace Go.Proofs.YtfoekelhcmlagaaDoor
theorem first_split {c : UInt8} : ∀ {l : List UInt8}, c ∈ l → ∃ A B, l = A ++ c :: B ∧ ∀ x ∈ A, x ≠ c
  | [], h => by cases h
  | b :: l, h => by
    by_cases e : b = c
    · exact ⟨[], l, by rw [e]; rfl, fun x hx => by cases hx⟩
    · obtain ⟨A, B, rfl, hA⟩ := first_split (l := l) (by cases h with | head => exact absurd rfl e | tail _ h => exact h)
      refine ⟨b :: A, B, rfl, ?_⟩
      intro x hx
      cases hx with
      | head => exact e
      | tail _ hx => exact hA x hx
/-- a list of bytes cut at a byte -/
def cutL (c : UInt8) : List UInt8 → List (List UInt8)
  | [] => [[]]
  | b :: l => if b = c then [] :: cutL c l else match cutL c l with
    | [] => [[b]]
    | p :: r => (b :: p) :: r
theorem cutL_none (c : UInt8) : ∀ A : List UInt8, (∀ x ∈ A, x ≠ c) → cutL c A = [A]
  | [], _ => rfl
  | b :: A, h => by
    rw [cutL, if_neg (h b (by simp)), cutL_none c A (fun x hx => h x (by simp [hx]))]
theorem cutL_app (c : UInt8) (B : List UInt8) : ∀ A : List UInt8, (∀ x ∈ A, x ≠ c) → cutL c (A ++ c :: B) = A :: cutL c B
  | [], _ => by rw [List.nil_append, cutL, if_pos rfl]
  | b :: A, h => by
    rw [List.cons_append, cutL, if_neg (h b (by simp)), cutL_app c B A (fun x hx => h x (by simp [hx]))]
theorem index_one (c : UInt8) (A B : List UInt8) (h : ∀ x ∈ A, x ≠ c) : Lib.index (A ++ c :: B) [c] = A.length := by
  refine Lib.index_first (by simp) ?_ ?_
  · simp [Lib.occAt]
  · intro j hj
    rw [← Bool.not_eq_true]
    intro ho
    have e := Lib.occAt_head rfl ho
    rw [List.getElem?_append_left hj] at e
    exact h c (List.mem_of_getElem? e) rfl
theorem splitK_cutL (c : UInt8) : ∀ (k : Nat) (l : List UInt8), l.count c = k → Lib.splitK [c] 0 k l = cutL c l
  | 0, l, h => by
    rw [cutL_none c l (fun x hx e => by subst e; exact absurd (List.count_pos_iff.2 hx) (by omega))]
    rfl
  | k + 1, l, h => by
    obtain ⟨A, B, rfl, hA⟩ := first_split (List.count_pos_iff.1 (show 0 < l.count c by omega))
    have hi := index_one c A B hA
    have h0 : A.count c = 0 := List.count_eq_zero.2 (fun hx => hA c hx rfl)
    have hB : B.count c = k := by
      rw [List.count_append, List.count_cons_self, h0] at h; omega
    rw [Lib.splitK, if_neg (by rw [hi, beq_iff_eq]; omega), hi, cutL_app c B A hA]
    congr 1
    · simp
    · rw [← splitK_cutL c k B hB]
      congr 1
      rw [show ((A.length : Int)).toNat + [c].length = A.length + 1 by simp, ← List.drop_drop, List.drop_left]
      rfl
theorem extract_list (s : ByteArray) (a b : Nat) : (s.extract a b).data.toList = (s.data.toList.drop a).take (b - a) := by
  simp
theorem byte_list {s : ByteArray} {i : Nat} (h : i < s.size) : s.data.toList[i]'(by simpa using h) = s[i] := by simp; rfl
theorem splitTo_cut (s : ByteArray) (c : UInt8) : ∀ i, i ≤ s.size →
    cutL c s.data.toList = (splitTo s c.toNat i).1.map (·.data.toList) ++ cutL c (s.data.toList.drop (splitTo s c.toNat i).2) ∧
      ∀ j (h : j < s.size), (splitTo s c.toNat i).2 ≤ j → j < i → s[j] ≠ c
  | 0, _ => ⟨by simp [splitTo], fun j _ _ h => by omega⟩
  | i + 1, hi => by
    obtain ⟨e, hn⟩ := splitTo_cut s c i (by omega)
    have hlt : i < s.size := by omega
    have hle := (splitTo_le s c.toNat i).1
    by_cases hc : s[i].toNat = c.toNat
    · rw [splitTo_hit hlt hc]
      refine ⟨?_, fun j _ h1 h2 => by simp at h1; omega⟩
      rw [e]
      generalize (splitTo s c.toNat i).2 = f at *
      have hl : i < s.data.toList.length := by simpa using hlt
      have hd : s.data.toList.drop f = ((s.data.toList.drop f).take (i - f)) ++ c :: s.data.toList.drop (i + 1) := by
        have hci : s.data.toList[i] = c := by rw [byte_list hlt]; exact UInt8.toNat_inj.1 hc
        conv => lhs; rw [← List.take_append_drop (i - f) (s.data.toList.drop f)]
        congr 1
        rw [List.drop_drop, show f + (i - f) = i by omega, List.drop_eq_getElem_cons hl, hci]
      have hA : ∀ x ∈ (s.data.toList.drop f).take (i - f), x ≠ c := by
        intro x hx
        obtain ⟨k, hk, rfl⟩ := List.getElem_of_mem hx
        have hk2 : k < i - f := by rw [List.length_take] at hk; omega
        rw [List.getElem_take, List.getElem_drop]
        have := hn (f + k) (by omega) (by omega) (by omega)
        rw [← byte_list (by omega)] at this
        exact this
      conv => lhs; rw [hd, cutL_app c _ _ hA]
      simp
    · rw [splitTo_miss hlt hc]
      refine ⟨e, fun j h h1 h2 => ?_⟩
      by_cases hj : j = i
      · subst hj; exact fun e => hc (by rw [e])
      · exact hn j h h1 (by omega)
theorem splitB_cut (s : ByteArray) (c : UInt8) : (splitB s c.toNat).map (·.data.toList) = cutL c s.data.toList := by
  obtain ⟨e, hn⟩ := splitTo_cut s c s.size (Nat.le_refl _)
  have hle := (splitTo_le s c.toNat s.size).1
  unfold splitB
  rw [e]
  generalize (splitTo s c.toNat s.size).2 = f at *
  rw [cutL_none c (s.data.toList.drop f)]
  · rw [List.map_append]; congr 1
    simp only [List.map_cons, List.map_nil, extract_list]
    rw [List.take_of_length_le (by simp)]
  · intro x hx
    obtain ⟨k, hk, rfl⟩ := List.getElem_of_mem hx
    rw [List.getElem_drop]
    have hk2 : f + k < s.size := by rw [List.length_drop] at hk; simp at hk; omega
    have := hn (f + k) hk2 (by omega) hk2
    rw [← byte_list hk2] at this
    exact this
theorem datas_inj : ∀ {A B : List ByteArray}, A.map (·.data.toList) = B.map (·.data.toList) → A = B
  | [], [], _ => rfl
  | [], b :: B, h => by cases h
  | a :: A, [], h => by cases h
  | a :: A, b :: B, h => by
    simp only [List.map_cons, List.cons.injEq] at h
    obtain ⟨h1, h2⟩ := h
    rw [datas_inj h2]
    congr 1
    cases a; cases b
    congr 1
    exact Array.toList_inj.1 h1
theorem lib_split (s : ByteArray) (c : UInt8) : Lib.splitB ⟨#[c]⟩ 0 (Lib.countB s ⟨#[c]⟩) s = splitB s c.toNat := by
  apply datas_inj
  rw [Lib.splitB_data, splitB_cut]
  exact splitK_cutL c _ _ (Lib.count_one c s.data.toList).symm
theorem lib_count (s : ByteArray) (c : UInt8) : Lib.countB s ⟨#[c]⟩ + 1 = (splitB s c.toNat).length := by
  rw [← lib_split, Lib.splitB_all ⟨#[c]⟩ (Nat.le_refl 1) 0 _ s rfl]
end Go.Proofs.YtfoekelhcmlagaaDoor

/- The library's Split and the digits of a number, as the program calls them, over the contracts laid at this translation. -/
namespace Go.Proofs.YtfoekelhcmlagaaDoor
open Go.RowKit

/-- the library's variable MaxLen holds some number -/
def MaxI (w : World) : Prop := ∃ m : Int, w.cell? ⟨4, 0, none⟩ = some (.int .i64 m)
theorem MaxI.on {w w' : World} (h : MaxI w) (hb : Below w.heap.size w w') : MaxI w' := by
  obtain ⟨m, hm⟩ := h
  have hlt : 4 < w.heap.size := by
    by_cases h : 4 < w.heap.size
    · exact h
    · exfalso
      simp [World.cell?, Array.getElem?_eq_none (show w.heap.size ≤ 4 by omega)] at hm
  exact ⟨m, by rw [(bcell hb).1 _ _ hlt]; exact hm⟩

theorem split_call (s : ByteArray) (w : World) (hG : MaxI w) (hs : s.size < 4294967281) :
    Calls Tryd.prog 78 #[.string s, .string ⟨#[46]⟩] w fun e w' => e = .returned (.slice (some ⟨w.heap.size, 0, none⟩) (splitB s 46).length (splitB s 46).length) ∧ w' = w.alloc (.cells (strCells (splitB s 46)).toArray 9) := by
  obtain ⟨m, hm⟩ := hG
  have h := Any.strings_Split { Tryd.lays146 with } Tryd.lays146.i9 s ⟨#[46]⟩ m w hs hm (Nat.le_refl 1)
  rw [lib_split s 46, lib_count s 46] at h
  exact h
/-- all cuts and the bytes between them -/
theorem cutL_sum (c : UInt8) : ∀ l : List UInt8, ((cutL c l).map (fun p => p.length + 1)).sum = l.length + 1
  | [] => rfl
  | b :: l => by
    have ih := cutL_sum c l
    rw [cutL]
    split
    · simp only [List.map_cons, List.sum_cons, List.length_nil, List.length_cons, ih]; omega
    · split
      · rename_i h; rw [h] at ih; simp at ih
      · rename_i h
        rw [h] at ih
        simp only [List.map_cons, List.sum_cons, List.length_cons] at ih ⊢
        omega
theorem sum_le (L : List ByteArray) (h : ∀ x ∈ L, x.size ≤ 12) : (L.map (fun p => p.data.toList.length + 1)).sum ≤ 13 * L.length := by
  induction L with
  | nil => exact Nat.le_refl _
  | cons a L ih =>
    have h1 := h a (by simp)
    have h2 := ih (fun x hx => h x (by simp [hx]))
    have e : a.data.toList.length = a.size := (Lib.size_eq a).symm
    simp only [List.map_cons, List.sum_cons, List.length_cons, e]
    omega
theorem labelB_le {t : ByteArray} (h : labelB t = true) : t.size ≤ 12 := by
  by_cases hz : 12 < t.size
  · rw [labelB_size (.inr hz)] at h; cases h
  · omega
theorem host_size {s : ByteArray} (hn : (splitB s 46).length ≤ 6) (h : ∀ k (h : k < (splitB s 46).length), labelB ((splitB s 46)[k]) = true) : s.size ≤ 100 := by
  have e := splitB_cut s 46
  have e2 := cutL_sum 46 s.data.toList
  rw [← e, List.map_map] at e2
  have e3 := sum_le (splitB s 46) (fun x hx => by
    obtain ⟨k, hk, rfl⟩ := List.getElem_of_mem hx
    exact labelB_le (h k hk))
  have e4 : s.data.toList.length = s.size := (Lib.size_eq s).symm
  have e5 : ((splitB s 46).map (fun p => p.data.toList.length + 1)).sum = s.size + 1 := by rw [← e4]; exact e2
  omega
theorem hostB_six {s : ByteArray} (hn : (splitB s 46).length ≤ 6) (h : ∀ k (h : k < (splitB s 46).length), labelB ((splitB s 46)[k]) = true) : hostB s = true := by
  rw [hostB_all (host_size hn h) h]; simpa using hn
theorem hostB_many {s : ByteArray} (hn : 6 < (splitB s 46).length) : hostB s = false := by
  unfold hostB; rw [decide_eq_false (show ¬ (splitB s 46).length ≤ 6 by omega)]; simp
end Go.Proofs.YtfoekelhcmlagaaDoor

/- The walk of the program's closure that tells whether a rule fits a host's labels from a place on. -/
namespace Go.Proofs.YtfoekelhcmlagaaDoor
open Go.RowKit

/-- does a rule's text fit the labels from place k on, to their end? -/
def fitK (s : ByteArray) (k m : Nat) (h : Nat → ByteArray) : Bool := decide ((splitB s 46).length + k = m) && fitsB (splitB s 46).length (atL (splitB s 46)) m h
theorem fitK_other {s : ByteArray} {k m : Nat} {h : Nat → ByteArray} (e : ¬ (splitB s 46).length + k = m) : fitK s k m h = false := by unfold fitK; rw [decide_eq_false e]; rfl

set_option maxRecDepth 10000 in
set_option maxHeartbeats 1000000 in
theorem fit_any (s : ByteArray) (k m b B : Nat) (v : Value) (h : Nat → ByteArray) (w : World) (hG : MaxI w) (hs : s.size ≤ 1048576) (hb : b < w.heap.size) (hbc : w.cell? ⟨b, 0, none⟩ = some v) (hv : SliceS w B v m h) (hk : k ≤ m) (hm : m ≤ 1048576) :
    Calls Tryd.prog 162 #[.string s, .int .i64 k, .pointer (some ⟨b, 0, none⟩)] w fun e w' => e = .returned (.bool (fitK s k m h)) ∧ Below w.heap.size w w' := by
  obtain ⟨p2, c2, rfl, g2⟩ := hv
  have HG : Hid (MaxI w) := hG
  have G2 : Hid (0 < m → ∃ g, p2 = some ⟨g, 0, none⟩ ∧ B ≤ g ∧ g < w.heap.size ∧ ∀ j, j < m → w.cell? ⟨g, j, none⟩ = some (.string (h j)) ∧ w.frozen? ⟨g, j, none⟩ = false) := g2
  have HC : Hid (∀ W, MaxI W → Calls Tryd.prog 78 #[.string s, .string ⟨#[46]⟩] W fun e w' => e = .returned (.slice (some ⟨W.heap.size, 0, none⟩) (splitB s 46).length (splitB s 46).length) ∧ w' = W.alloc (.cells (strCells (splitB s 46)).toArray 9)) := fun W h => split_call s W h (by omega)
  have hn := splitB_len s 46
  obtain ⟨n0, hn0⟩ := splitB_ne s 46
  have HN : Hid (¬ (splitB s 46).length + k = m → fitK s k m h = false) := fun e => fitK_other e
  have HY : Hid (∀ n1, (splitB s 46).length = n1 → n1 + k = m → (∀ j, j < n1 → fitAt (atL (splitB s 46)) h k j = false → fitK s k m h = false) ∧ ((∀ j, j < n1 → fitAt (atL (splitB s 46)) h k j = true) → fitK s k m h = true)) := by
    rintro n1 rfl rfl
    rw [Nat.add_comm _ k]
    unfold fitK
    rw [Nat.add_comm _ k, decide_eq_true rfl, Bool.true_and]
    exact ⟨fun j hj hf => fitsB_at j hj hf, fun h => fitsB_all h⟩
  have hAt : ∀ j (hj : j < (splitB s 46).length), (splitB s 46)[j] = atL (splitB s 46) j := fun j hj => by simp [atL, hj]
  have HAt : Hid (∀ j (hj : j < (splitB s 46).length), (splitB s 46)[j] = atL (splitB s 46) j) := hAt
  clear g2 hG hAt
  generalize fitK s k m h = R at *
  generalize splitB s 46 = L at *
  go_enter Tryd.func162, Tryd.ntmps162
  go_wp2_with fail
  refine (HC.out _ HG.out).mono ?_
  rintro e w1 ⟨rfl, rfl⟩
  have hb1 : Below w.heap.size w (w.alloc (.cells (strCells L).toArray 9)) := (Below.refl _ _).alloc (Nat.le_refl _) _
  have hbc1 : (w.alloc (.cells (strCells L).toArray 9)).cell? ⟨b, 0, none⟩ = some (.slice p2 m c2) := by rw [(bcell hb1).1 _ _ hb]; exact hbc
  by_cases hl : L.length + k = m
  · have HY2 := HY.out _ rfl hl
    have q0 : ((L.length : Int) == (m : Int) - (k : Int)) = true := by rw [beq_iff_eq]; omega
    have HC1 : Hid (∀ j, j < L.length → (w.alloc (.cells (strCells L).toArray 9)).cell? ⟨w.heap.size, j, none⟩ = some (.string (atL L j))) := by
      intro j hj
      rw [← HAt.out j hj]
      simp [strCells, hj]
    have HB1 : Hid (Below w.heap.size w (w.alloc (.cells (strCells L).toArray 9))) := hb1
    have HY1 : Hid ((∀ j, j < L.length → fitAt (atL L) h k j = false → R = false) ∧ ((∀ j, j < L.length → fitAt (atL L) h k j = true) → R = true)) := HY2
    have hz1 : w.heap.size < (w.alloc (.cells (strCells L).toArray 9)).heap.size := by simp
    have hmp : 0 < m := by omega
    clear HY HY2 HN hb1 HC HAt
    generalize w.alloc (.cells (strCells L).toArray 9) = w1 at *
    generalize L.length = n at *
    generalize atL L = f at *
    go_wp2
    go_loopw [7, 19] (fun _ i wr => ∃ j : Nat, j ≤ n ∧ i = .int .i64 j ∧ Hid (Below w1.heap.size w1 wr) ∧ Hid (∀ i, i < j → fitAt f h k i = true)) (fun _ i _ => n - (intOf i).toNat)
    case atStart => exact ⟨0, Nat.zero_le _, rfl, Below.refl _ _, fun i hi => absurd hi (by omega)⟩
    case round =>
      obtain ⟨j, hj, rfl, HB, HR⟩ := hrel
      by_cases hlt : j < n
      · obtain ⟨g, rfl, -, hg, hcg⟩ := G2.out hmp
        have d1 : wr.cell? ⟨w.heap.size, j, none⟩ = some (.string (f j)) := by rw [(bcell HB.out).1 _ _ hz1]; exact HC1.out j hlt
        have d2 : wr.cell? ⟨g, k + j, none⟩ = some (.string (h (k + j))) := by
          rw [(bcell HB.out).1 _ _ (by omega), (bcell HB1.out).1 _ _ hg]; exact (hcg (k + j) (by omega)).1
        have d3 : wr.cell? ⟨b, 0, none⟩ = some (.slice (some ⟨g, 0, none⟩) m c2) := by rw [(bcell HB.out).1 _ _ (by omega)]; exact hbc1
        have k0 : (0 : Int) ≤ j := by omega
        have k1 : (j : Int) < n := by omega
        have k2 : (0 : Int) ≤ (k : Int) + j := by omega
        have k3 : (k : Int) + j < (m : Int) := by omega
        have hw : IntKind.i64.wrap ((k : Int) + (j : Int)) = (k : Int) + (j : Int) := by rw [IntKind.wrap_i64]; omega
        clear hcg
        cases hst : ((f j).toList == [42]) with
        | true =>
          have HK : Hid (fitAt f h k j = true) := by show _ = _; rw [fitAt, hst]; rfl
          generalize f j = t at *
          go_wp2
          go_region
          go_wp2
          go_roundw
          case rel =>
            refine ⟨j + 1, by omega, by go_num, HB.out.drew, ?_⟩
            intro i hi
            by_cases e : i = j
            · subst e; exact HK.out
            · exact HR.out i (by omega)
          case measure => simp [intOf]; omega
        | false =>
          cases hsame : ((f j).toList == (h (k + j)).toList) with
          | true =>
            have HK : Hid (fitAt f h k j = true) := by show _ = _; rw [fitAt, hst, hsame]; rfl
            generalize f j = t at *
            generalize h (k + j) = u at *
            go_wp2
            go_region
            go_wp2
            go_roundw
            case rel =>
              refine ⟨j + 1, by omega, by go_num, HB.out.drew, ?_⟩
              intro i hi
              by_cases e : i = j
              · subst e; exact HK.out
              · exact HR.out i (by omega)
            case measure => simp [intOf]; omega
          | false =>
            have HQ : Hid (R = false) := HY1.out.1 j hlt (by rw [fitAt, hst, hsame]; rfl)
            generalize f j = t at *
            generalize h (k + j) = u at *
            go_wp2
            go_region
            go_wp2
            go_ret
            exact ⟨ret_bool HQ.out.symm, HB1.out.trans (HB.out.drew.mono HB1.out.size)⟩
      · go_wp2
        go_ret
        exact ⟨ret_bool (HY1.out.2 (fun i hi => HR.out i (by omega))).symm, HB1.out.trans (HB.out.mono HB1.out.size)⟩
  · have HQ : Hid (R = false) := HN.out hl
    have q0 : ((L.length : Int) == (m : Int) - (k : Int)) = false := by rw [beq_eq_false_iff_ne]; omega
    clear HY HN
    go_wp2
    go_ret
    exact ⟨ret_bool HQ.out.symm, hb1⟩
end Go.Proofs.YtfoekelhcmlagaaDoor

/- What a right rule is, in the words of the library's functions. -/
namespace Go.Proofs.YtfoekelhcmlagaaDoor

theorem findTo_none {t x : ByteArray} : ∀ {n : Nat}, findTo t x n = none → ∀ i, i < n → ¬ (i + x.size ≤ t.size ∧ isAt t x i = true)
  | 0, _, i, hi => absurd hi (by omega)
  | n + 1, h, i, hi => by
    rw [findTo] at h
    cases hf : findTo t x n with
    | some m => rw [hf] at h; cases h
    | none =>
      rw [hf] at h
      simp only at h
      by_cases e : i = n
      · subst e
        intro hc
        rw [if_pos hc] at h; cases h
      · exact findTo_none hf i (by omega)
theorem isAt_one {t : ByteArray} {c : UInt8} {i : Nat} (h : i < t.size) : isAt t ⟨#[c]⟩ i = true ↔ t.data.toList[i]? = some c := by
  have e : (t.extract i (i + (⟨#[c]⟩ : ByteArray).size)).toList = (t.data.toList.drop i).take 1 := by
    rw [Lib.toList_data, extract_list]
    rw [show (⟨#[c]⟩ : ByteArray).size = 1 from rfl, Nat.add_sub_cancel_left]
  have hl : i < t.data.toList.length := by simpa using h
  unfold isAt
  rw [e, Lib.toList_data, beq_iff_eq, List.drop_eq_getElem_cons hl, List.take_succ_cons, List.take_zero, List.getElem?_eq_getElem hl]
  simp
theorem find_mem (t : ByteArray) (c : UInt8) : 0 ≤ findI t ⟨#[c]⟩ ↔ c ∈ t.data.toList := by
  have h1 : (⟨#[c]⟩ : ByteArray).size = 1 := rfl
  unfold findI findN
  cases hf : findTo t ⟨#[c]⟩ (t.size + 1) with
  | some k =>
    simp only
    obtain ⟨_, hk, ha⟩ := findTo_lt hf
    rw [h1] at hk
    exact ⟨fun _ => List.mem_of_getElem? ((isAt_one (by omega)).1 ha), fun _ => by omega⟩
  | none =>
    simp only
    refine ⟨fun h => absurd h (by omega), fun h => ?_⟩
    obtain ⟨i, hi, e⟩ := List.getElem_of_mem h
    have hi2 : i < t.size := by simpa using hi
    exact absurd ⟨by rw [h1]; omega, (isAt_one hi2).2 (by rw [List.getElem?_eq_getElem hi, e])⟩ (findTo_none hf i (by omega))
theorem bytes_ext {a b : ByteArray} (h : a.data.toList = b.data.toList) : a = b := by
  cases a; cases b
  congr 1
  exact Array.toList_inj.1 h
theorem extract_to (s : ByteArray) (k : Nat) : (s.extract k s.size).data.toList = s.data.toList.drop k := by
  rw [extract_list, List.take_of_length_le]
  rw [List.length_drop, ← Lib.size_eq]
  omega
theorem bangB_lib (s : ByteArray) : bangB s = Lib.hasPrefix s.data.toList [33] := by
  have e := Lib.hasPrefix_raw s ⟨#[33]⟩
  have hd : (⟨#[33]⟩ : ByteArray).data.toList = [33] := rfl
  rw [hd] at e
  rw [← e]
  have h1 : (⟨#[33]⟩ : ByteArray).size = 1 := rfl
  unfold bangB
  rw [h1]
  by_cases h : 0 < s.size
  · have e2 := isAt_one (t := s) (c := 33) h
    unfold isAt at e2
    rw [h1, Nat.zero_add] at e2
    rw [decide_eq_true (show 1 ≤ s.size by omega), Bool.true_and]
    have hl : 0 < s.data.toList.length := by simpa using h
    rw [List.getElem?_eq_getElem hl, byte_list h] at e2
    rw [Bool.eq_iff_iff, decide_eq_true_iff, e2]
    constructor
    · rintro ⟨_, h3⟩
      congr 1
      exact UInt8.toNat_inj.1 h3
    · intro h3
      exact ⟨h, by rw [Option.some.inj h3]; rfl⟩
  · rw [decide_eq_false (show ¬ 1 ≤ s.size by omega), Bool.false_and, decide_eq_false_iff_not]
    rintro ⟨h2, _⟩; exact h h2
theorem starB_lib (s : ByteArray) : starB s = (decide (2 < s.size) && Lib.hasPrefix s.data.toList [42, 46]) := by
  have e := Lib.hasPrefix_raw s ⟨#[42, 46]⟩
  have hd : (⟨#[42, 46]⟩ : ByteArray).data.toList = [42, 46] := rfl
  have hd2 : (⟨#[42, 46]⟩ : ByteArray).toList = [42, 46] := by rw [Lib.toList_data]
  have h2 : (⟨#[42, 46]⟩ : ByteArray).size = 2 := rfl
  rw [hd, hd2, h2] at e
  unfold starB
  rw [← e]
  by_cases h : 2 < s.size
  · rw [decide_eq_true (show 2 ≤ s.size by omega), Bool.true_and]
  · rw [decide_eq_false h]; simp
/-- without the exclamation mark -/
def unbang (s : ByteArray) : ByteArray := ⟨(Lib.trimPrefix s.data.toList [33]).toArray⟩
theorem unbang_yes {s : ByteArray} (h : bangB s = true) : unbang s = s.extract 1 s.size := by
  rw [bangB_lib] at h
  apply bytes_ext
  rw [extract_to, unbang, Lib.trimPrefix, if_pos h]
  simp
/-- without the star and the point -/
def unstar (s : ByteArray) : ByteArray := ⟨(Lib.trimPrefix s.data.toList [42, 46]).toArray⟩
theorem hostB_starpoint : hostB ⟨#[42, 46]⟩ = false := hostB_at 0 (by decide) (by decide)
theorem hostB_empty : hostB ⟨#[]⟩ = false := hostB_at 0 (by decide) (by decide)
theorem ruleB_yes {s : ByteArray} (h : bangB s = true) : ruleB s = (hostB (unbang s) && decide (0 ≤ Lib.indexByte (unbang s).data.toList 46)) := by
  rw [ruleB_bang h, unbang_yes h]
  congr 1
  rw [← Lib.contains_iff_indexByte, extract_to, Bool.eq_iff_iff, decide_eq_true_iff, find_mem, List.contains_iff_mem]
  have hp : Lib.hasPrefix s.data.toList [33] = true := by rw [← bangB_lib]; exact h
  unfold Lib.hasPrefix at hp
  obtain ⟨r, hr⟩ := List.isPrefixOf_iff_prefix.1 hp
  rw [← hr]
  simp
theorem ruleB_no {s : ByteArray} (h : bangB s = false) : ruleB s = hostB (unstar s) := by
  have hst := starB_lib s
  cases hp : Lib.hasPrefix s.data.toList [42, 46] with
  | false =>
    rw [hp, Bool.and_false] at hst
    rw [ruleB_host h hst]
    congr 1
    apply bytes_ext
    rw [unstar, Lib.trimPrefix, if_neg (by rw [hp]; decide)]
  | true =>
    rw [hp, Bool.and_true] at hst
    by_cases h2 : 2 < s.size
    · rw [decide_eq_true h2] at hst
      rw [ruleB_star h hst]
      congr 1
      apply bytes_ext
      rw [extract_to, unstar, Lib.trimPrefix, if_pos hp]
      simp
    · rw [decide_eq_false h2] at hst
      rw [ruleB_host h hst]
      have hle : s.data.toList.length ≤ 2 := by rw [← Lib.size_eq]; omega
      unfold Lib.hasPrefix at hp
      have hp2 := List.isPrefixOf_iff_prefix.1 hp
      have e : s.data.toList = [42, 46] := (hp2.eq_of_length_le (by simpa using hle)).symm
      have e1 : s = ⟨#[42, 46]⟩ := bytes_ext (by rw [e])
      have e2 : unstar s = ⟨#[]⟩ := bytes_ext (by rw [unstar, e]; rfl)
      rw [e2, hostB_empty, e1, hostB_starpoint]
theorem unbang_le (s : ByteArray) : (unbang s).size ≤ s.size := by
  have : (unbang s).size = (Lib.trimPrefix s.data.toList [33]).length := by simp [unbang, ByteArray.size]
  rw [this, Lib.size_eq s]
  unfold Lib.trimPrefix
  split
  · rw [List.length_drop]; omega
  · exact Nat.le_refl _
theorem unstar_le (s : ByteArray) : (unstar s).size ≤ s.size := by
  have : (unstar s).size = (Lib.trimPrefix s.data.toList [42, 46]).length := by simp [unstar, ByteArray.size]
  rw [this, Lib.size_eq s]
  unfold Lib.trimPrefix
  split
  · rw [List.length_drop]; omega
  · exact Nat.le_refl _
end Go.Proofs.YtfoekelhcmlagaaDoor

/- The rules apart; the fitting one of most labels begins first; so the suffix's labels are those that the specification counts. -/
namespace Go.Proofs.YtfoekelhcmlagaaDoor

/-- of the first i rules those with an exclamation mark, which is taken off -/
def exL (f : Nat → ByteArray) : Nat → List ByteArray
  | 0 => []
  | i + 1 => if bangB (f i) = true then exL f i ++ [unbang (f i)] else exL f i
/-- the others -/
def otL (f : Nat → ByteArray) : Nat → List ByteArray
  | 0 => []
  | i + 1 => if bangB (f i) = true then otL f i else otL f i ++ [f i]
theorem exL_len (f : Nat → ByteArray) : ∀ i, (exL f i).length ≤ i
  | 0 => Nat.le_refl _
  | i + 1 => by
    have := exL_len f i
    rw [exL]; split
    · simp; omega
    · omega
theorem otL_len (f : Nat → ByteArray) : ∀ i, (otL f i).length ≤ i
  | 0 => Nat.le_refl _
  | i + 1 => by
    have := otL_len f i
    rw [otL]; split
    · omega
    · simp; omega
theorem exL_small {f : Nat → ByteArray} {N : Nat} : ∀ {i}, (∀ j, j < i → (f j).size ≤ N) → ∀ x ∈ exL f i, x.size ≤ N
  | 0, _, x, hx => by cases hx
  | i + 1, h, x, hx => by
    rw [exL] at hx
    split at hx
    · rw [List.mem_append, List.mem_singleton] at hx
      rcases hx with hx | hx
      · exact exL_small (fun j hj => h j (by omega)) x hx
      · rw [hx]; exact Nat.le_trans (unbang_le _) (h i (by omega))
    · exact exL_small (fun j hj => h j (by omega)) x hx
theorem otL_small {f : Nat → ByteArray} {N : Nat} : ∀ {i}, (∀ j, j < i → (f j).size ≤ N) → ∀ x ∈ otL f i, x.size ≤ N
  | 0, _, x, hx => by cases hx
  | i + 1, h, x, hx => by
    rw [otL] at hx
    split at hx
    · exact otL_small (fun j hj => h j (by omega)) x hx
    · rw [List.mem_append, List.mem_singleton] at hx
      rcases hx with hx | hx
      · exact otL_small (fun j hj => h j (by omega)) x hx
      · rw [hx]; exact h i (by omega)

def fitT (s : ByteArray) (m : Nat) (h : Nat → ByteArray) : Bool := fitsB (splitB s 46).length (atL (splitB s 46)) m h
theorem fitT_len {s : ByteArray} {m : Nat} {h : Nat → ByteArray} (e : fitT s m h = true) : (splitB s 46).length ≤ m := by
  unfold fitT fitsB at e
  rw [Bool.and_eq_true, decide_eq_true_eq] at e
  exact e.1
/-- the most labels of a rule of a list that fits; 0 if none does -/
def mxL (m : Nat) (h : Nat → ByteArray) : List ByteArray → Nat
  | [] => 0
  | r :: L => if fitT r m h = true then max (splitB r 46).length (mxL m h L) else mxL m h L
theorem mxL_snoc (m : Nat) (h : Nat → ByteArray) (r : ByteArray) : ∀ L, mxL m h (L ++ [r]) = if fitT r m h = true then max (mxL m h L) (splitB r 46).length else mxL m h L
  | [] => by simp [mxL]
  | x :: L => by
    rw [List.cons_append, mxL, mxL_snoc m h r L, mxL]
    split
    · split
      · rw [Nat.max_assoc]
      · rfl
    · rfl
theorem mxL_le (m : Nat) (h : Nat → ByteArray) : ∀ L, mxL m h L ≤ m
  | [] => Nat.zero_le _
  | r :: L => by
    have ih := mxL_le m h L
    rw [mxL]; split
    · rename_i e
      have := fitT_len e
      omega
    · exact ih
theorem mxL_ge {m : Nat} {h : Nat → ByteArray} {r : ByteArray} (e : fitT r m h = true) : ∀ {L}, r ∈ L → (splitB r 46).length ≤ mxL m h L
  | [], hr => by cases hr
  | x :: L, hr => by
    rw [mxL]
    rcases List.mem_cons.1 hr with hx | hx
    · subst hx; rw [if_pos e]; omega
    · have := mxL_ge e hx
      split <;> omega
theorem mxL_at (m : Nat) (h : Nat → ByteArray) : ∀ L, 0 < mxL m h L → ∃ r ∈ L, fitT r m h = true ∧ (splitB r 46).length = mxL m h L
  | [], h0 => absurd h0 (by simp [mxL])
  | x :: L, h0 => by
    rw [mxL] at h0 ⊢
    split at h0
    · rename_i e
      rw [if_pos e]
      by_cases hc : (splitB x 46).length < mxL m h L
      · obtain ⟨r, hr, hf, hl⟩ := mxL_at m h L (by omega)
        exact ⟨r, by simp [hr], hf, by omega⟩
      · exact ⟨x, by simp, e, by omega⟩
    · rename_i e
      rw [if_neg e]
      obtain ⟨r, hr, hf, hl⟩ := mxL_at m h L h0
      exact ⟨r, by simp [hr], hf, hl⟩
theorem fitR_bang {s : ByteArray} {m : Nat} {h : Nat → ByteArray} (e : bangB s = true) : fitR s m h = fitT (unbang s) m h ∧ (ruleL s).length = (splitB (unbang s) 46).length := by
  have : ruleL s = splitB (unbang s) 46 := by rw [ruleL, if_pos e, unbang_yes e]
  unfold fitR fitT
  rw [this]; exact ⟨rfl, rfl⟩
theorem fitR_plain {s : ByteArray} {m : Nat} {h : Nat → ByteArray} (e : ¬ bangB s = true) : fitR s m h = fitT s m h ∧ (ruleL s).length = (splitB s 46).length := by
  have : ruleL s = splitB s 46 := by rw [ruleL, if_neg e]
  unfold fitR fitT
  rw [this]; exact ⟨rfl, rfl⟩
theorem cntTo_apart (f : Nat → ByteArray) (m : Nat) (h : Nat → ByteArray) : ∀ i, cntTo f m h i = (max 1 (mxL m h (otL f i)), mxL m h (exL f i))
  | 0 => rfl
  | i + 1 => by
    rw [cntTo, cntTo_apart f m h i, otL, exL]
    by_cases hb : bangB (f i) = true
    · rw [if_pos hb, if_pos hb, if_pos hb, mxL_snoc, (fitR_bang hb).1, (fitR_bang hb (m := m) (h := h)).2]
      split <;> rfl
    · rw [if_neg hb, if_neg hb, if_neg hb, mxL_snoc, (fitR_plain hb).1, (fitR_plain hb (m := m) (h := h)).2]
      split
      · rw [Nat.max_assoc]
      · rfl
/-- with which of the m labels the fitting rule of most labels begins; m, if none fits -/
def longN (L : List ByteArray) (m : Nat) (h : Nat → ByteArray) : Nat := m - mxL m h L
theorem fitK_fitT {s : ByteArray} {k m : Nat} {h : Nat → ByteArray} (e : fitK s k m h = true) : fitT s m h = true ∧ (splitB s 46).length + k = m := by
  unfold fitK at e
  rw [Bool.and_eq_true, decide_eq_true_eq] at e
  exact ⟨e.2, e.1⟩
theorem longN_hit {L : List ByteArray} {m : Nat} {h : Nat → ByteArray} {k : Nat} {r : ByteArray} (hlow : ∀ j, j < k → ∀ x ∈ L, fitK x j m h = false) (hr : r ∈ L) (he : fitK r k m h = true) : longN L m h = k := by
  obtain ⟨hf, hl⟩ := fitK_fitT he
  have h1 := mxL_ge hf hr
  have h2 := mxL_le m h L
  unfold longN
  by_cases hlt : m - mxL m h L < k
  · obtain ⟨n0, hn0⟩ := splitB_ne r 46
    obtain ⟨x, hx, hfx, hlx⟩ := mxL_at m h L (by omega)
    have := hlow (m - mxL m h L) hlt x hx
    rw [fitK, decide_eq_true (by omega), Bool.true_and] at this
    unfold fitT at hfx
    rw [hfx] at this; cases this
  · omega
theorem longN_none {L : List ByteArray} {m : Nat} {h : Nat → ByteArray} (hlow : ∀ j, j < m → ∀ x ∈ L, fitK x j m h = false) : longN L m h = m := by
  have h2 := mxL_le m h L
  unfold longN
  by_cases h0 : 0 < mxL m h L
  · obtain ⟨x, hx, hfx, hlx⟩ := mxL_at m h L h0
    have := hlow (m - mxL m h L) (by omega) x hx
    rw [fitK, decide_eq_true (by omega), Bool.true_and] at this
    unfold fitT at hfx
    rw [hfx] at this; cases this
  · omega
theorem longN_le (L : List ByteArray) (m : Nat) (h : Nat → ByteArray) : longN L m h ≤ m := Nat.sub_le _ _
/-- where the suffix begins -/
def beginN (n : Nat) (f : Nat → ByteArray) (m : Nat) (h : Nat → ByteArray) : Nat := if longN (exL f n) m h < m then longN (exL f n) m h + 1 else min (longN (otL f n) m h) (m - 1)
theorem beginN_count (n : Nat) (f : Nat → ByteArray) {m : Nat} (h : Nat → ByteArray) (hm : 1 ≤ m) : beginN n f m h = m - countN n f m h ∧ beginN n f m h ≤ m := by
  have h1 := mxL_le m h (exL f n)
  have h2 := mxL_le m h (otL f n)
  unfold beginN countN longN
  rw [cntTo_apart]
  simp only
  by_cases h0 : 0 < mxL m h (exL f n)
  · rw [if_pos (by omega), if_pos h0]; omega
  · rw [if_neg (by omega), if_neg h0]; omega
end Go.Proofs.YtfoekelhcmlagaaDoor

/- The walk of the program's longestFit. -/
namespace Go.Proofs.YtfoekelhcmlagaaDoor
open Go.RowKit

set_option maxRecDepth 10000 in
set_option maxHeartbeats 2000000 in
theorem longest_any (v1 v2 : Value) (B1 B2 m : Nat) (L : List ByteArray) (h : Nat → ByteArray) (w : World) (hG : MaxI w) (h1 : SliceS w B1 v1 L.length (atL L)) (h2 : SliceS w B2 v2 m h) (l1 : L.length ≤ 1048576) (l2 : m ≤ 1048576) (hL : ∀ x ∈ L, x.size ≤ 1048576) :
    Calls Tryd.prog 132 #[v1, v2] w fun e w' => e = .returned (.int .i64 (longN L m h : Nat)) ∧ Below w.heap.size w w' := by
  have H2 : Hid (SliceS w B2 v2 m h) := h2
  obtain ⟨p1, c1, rfl, g1⟩ := h1
  have G1 : Hid (0 < L.length → ∃ g, p1 = some ⟨g, 0, none⟩ ∧ B1 ≤ g ∧ g < w.heap.size ∧ ∀ j, j < L.length → w.cell? ⟨g, j, none⟩ = some (.string (atL L j)) ∧ w.frozen? ⟨g, j, none⟩ = false) := g1
  obtain ⟨p2, c2, rfl, -⟩ := h2
  have HG : Hid (MaxI w) := hG
  have HH : Hid (∀ k r, (∀ j, j < k → ∀ x ∈ L, fitK x j m h = false) → r ∈ L → fitK r k m h = true → longN L m h = k) := fun k r a b c => longN_hit a b c
  have HN : Hid ((∀ j, j < m → ∀ x ∈ L, fitK x j m h = false) → longN L m h = m) := fun a => longN_none a
  have HM : Hid (∀ i, i < L.length → atL L i ∈ L) := fun i hi => by
    have : atL L i = L[i] := by simp [atL, hi]
    rw [this]; exact List.getElem_mem hi
  have HI : Hid (∀ x ∈ L, ∃ i, i < L.length ∧ x = atL L i) := fun x hx => by
    obtain ⟨i, hi, e⟩ := List.getElem_of_mem hx
    exact ⟨i, hi, by simp [atL, hi, e]⟩
  have HF : Hid (∀ (i k b : Nat) (W : World), i < L.length → k ≤ m → MaxI W → b < W.heap.size → W.cell? ⟨b, 0, none⟩ = some (.slice p2 m c2) → SliceS W B2 (.slice p2 m c2) m h →
      Calls Tryd.prog 162 #[.string (atL L i), .int .i64 k, .pointer (some ⟨b, 0, none⟩)] W fun e w' => e = .returned (.bool (fitK (atL L i) k m h)) ∧ Below W.heap.size W w') :=
    fun i k b W hi hk hM hb hc hs => fit_any (atL L i) k m b B2 _ h W hM (hL _ (HM.out i hi)) hb hc hs hk l2
  have hmf : ∀ (fn : Fn) (first cap : Array Value) (w : World), (Instr.makeFunc fn first cap).run Tryd.prog w = .ok (.func fn first cap) w := fun _ _ _ _ => rfl
  clear g1 hG hL
  generalize longN L m h = R at *
  generalize atL L = f at *
  go_enter Tryd.func132, Tryd.ntmps132
  go_wp2
  go_step3
  go_wp2
  go_step3
  go_wp2
  have hb0 : Below w.heap.size w (w.alloc (.cells #[.slice p2 m c2] 23)) := (Below.refl _ _).alloc (Nat.le_refl _) _
  have hz0 : w.heap.size < (w.alloc (.cells #[.slice p2 m c2] 23)).heap.size := by simp
  have hc0 : (w.alloc (.cells #[.slice p2 m c2] 23)).cell? ⟨w.heap.size, 0, none⟩ = some (.slice p2 m c2) := by simp
  have HB0 : Hid (Below w.heap.size w (w.alloc (.cells #[.slice p2 m c2] 23))) := hb0
  clear hb0
  generalize w.alloc (.cells #[.slice p2 m c2] 23) = w0 at *
  go_loopg [6, 15] m (fun g s6 s15 wx => ∃ k : Nat, k + g = m ∧ s6 = .int .i64 m ∧ s15 = .int .i64 k ∧ Hid (Below w0.heap.size w0 wx) ∧ Hid (∀ j, j < k → ∀ x ∈ L, fitK x j m h = false))
  case atStart => exact ⟨0, by omega, rfl, rfl, Below.refl _ _, fun j hj => absurd hj (by omega)⟩
  case round =>
    obtain ⟨k, hkg, rfl, rfl, HB, HK⟩ := hrel
    cases gk with
    | zero =>
      have hkz : ¬ ((k : Int) < (m : Int)) := by omega
      have HQ : Hid (R = m) := HN.out (fun j hj => HK.out j (by omega))
      go_wp2
      try rw [Exit.noGoto_ret]
      go_ret
      exact ⟨ret_int (by rw [HQ.out]), HB0.out.trans (HB.out.mono HB0.out.size)⟩
    | succ g =>
      have hkz : (k : Int) < (m : Int) := by omega
      go_wp2
      go_loopg [6, 20] L.length (fun g2 s6 s20 wy => ∃ i : Nat, i + g2 = L.length ∧ s6 = .int .i64 m ∧ s20 = .int .i64 i ∧ Hid (Below w0.heap.size w0 wy) ∧ Hid (∀ j, j < i → fitK (f j) k m h = false))
      case atStart => exact ⟨0, by omega, rfl, rfl, HB, fun j hj => absurd hj (by omega)⟩
      case round =>
        obtain ⟨i, hig, rfl, rfl, HB2, HJ⟩ := hrel
        cases gk with
        | zero =>
          have hiz : ¬ ((i : Int) < (L.length : Int)) := by omega
          go_wp2
          go_roundg g
          case measure => omega
          case rel =>
            refine ⟨k + 1, by omega, rfl, by go_num, HB2, ?_⟩
            intro j hj x hx
            by_cases e : j = k
            · subst e
              obtain ⟨i', hi', rfl⟩ := HI.out x hx
              exact HJ.out i' (by omega)
            · exact HK.out j (by omega) x hx
        | succ g2 =>
          have hiz : (i : Int) < (L.length : Int) := by omega
          have hiz0 : (0 : Int) ≤ (i : Int) := by omega
          obtain ⟨g1, rfl, -, hg1, hc1⟩ := G1.out (by omega)
          have B2' : Below w.heap.size w wr := HB0.out.trans (HB2.out.mono HB0.out.size)
          have d1 : wr.cell? ⟨g1, i, none⟩ = some (.string (f i)) := by rw [(bcell B2').1 _ _ hg1]; exact (hc1 i (by omega)).1
          have d2 : wr.cell? ⟨w.heap.size, 0, none⟩ = some (.slice p2 m c2) := by rw [(bcell HB2.out).1 _ _ hz0]; exact hc0
          have KF0 := HF.out i k w.heap.size wr (by omega) (by omega) (HG.out.on B2') (by have := HB2.out.size; omega) d2 (H2.out.below B2')
          clear hc1 B2'
          cases hfit : fitK (f i) k m h with
          | true =>
            have HQ : Hid (R = k) := HH.out k (f i) HK.out (HM.out i (by omega)) hfit
            rw [hfit] at KF0
            have KF : Hid (Calls Tryd.prog 162 #[.string (f i), .int .i64 k, .pointer (some ⟨w.heap.size, 0, none⟩)] wr fun e w' => e = .returned (.bool true) ∧ Below wr.heap.size wr w') := KF0
            clear KF0 hfit
            generalize f i = t at *
            go_wp2_with (go_at_call 162; refine KF.out.mono ?_; rintro e w3 ⟨rfl, hb3⟩)
            try rw [Exit.noGoto_ret]
            go_ret
            exact ⟨ret_int (by rw [HQ.out]), HB0.out.trans ((HB2.out.trans (hb3.mono HB2.out.size)).mono HB0.out.size)⟩
          | false =>
            have HQ : Hid (fitK (f i) k m h = false) := hfit
            rw [hfit] at KF0
            have KF : Hid (Calls Tryd.prog 162 #[.string (f i), .int .i64 k, .pointer (some ⟨w.heap.size, 0, none⟩)] wr fun e w' => e = .returned (.bool false) ∧ Below wr.heap.size wr w') := KF0
            clear KF0 hfit
            generalize hx : f i = t at *
            have HX : Hid (f i = t) := hx
            clear hx
            go_wp2_with (go_at_call 162; refine KF.out.mono ?_; rintro e w3 ⟨rfl, hb3⟩)
            go_roundg g2
            case measure => omega
            case rel =>
              refine ⟨i + 1, by omega, rfl, by go_num, HB2.out.trans (hb3.mono HB2.out.size), ?_⟩
              intro j hj
              by_cases e : j = i
              · subst e; rw [HX.out]; exact HQ.out
              · exact HJ.out j (by omega)
end Go.Proofs.YtfoekelhcmlagaaDoor

/- The walks of the program's inLabel, labelRight and pathRight. -/
namespace Go.Proofs.YtfoekelhcmlagaaDoor
open Go.RowKit

set_option maxRecDepth 10000 in
set_option maxHeartbeats 400000 in
theorem inLabel_any (n : Nat) (w : World) :
    Calls Tryd.prog 161 #[.int .i32 n] w fun e w' => e = .returned (.bool (labC n)) ∧ w' = w := by
  rcases (show (n < 45) ∨ (45 ≤ n ∧ n ≤ 45) ∨ (46 ≤ n ∧ n < 48) ∨ (48 ≤ n ∧ n ≤ 57) ∨ (58 ≤ n ∧ n < 97) ∨ (97 ≤ n ∧ n ≤ 122) ∨ (122 < n) by omega)
    with c1 | ⟨c1, c2⟩ | ⟨c1, c2⟩ | ⟨c1, c2⟩ | ⟨c1, c2⟩ | ⟨c1, c2⟩ | c1
  · have b1 : decide ((97 : Int) ≤ (n : Int)) = false := by rw [decide_eq_false_iff_not]; omega
    have b2 : decide ((48 : Int) ≤ (n : Int)) = false := by rw [decide_eq_false_iff_not]; omega
    have b3 : ((n : Int) == 45) = false := by rw [beq_eq_false_iff_ne]; omega
    go_enter Tryd.func161, Tryd.ntmps161
    go_wp2
    go_ret
    exact ⟨ret_bool (labC_no (by omega)).symm, rfl⟩
  · have b1 : decide ((97 : Int) ≤ (n : Int)) = false := by rw [decide_eq_false_iff_not]; omega
    have b2 : decide ((48 : Int) ≤ (n : Int)) = false := by rw [decide_eq_false_iff_not]; omega
    have b3 : ((n : Int) == 45) = true := by rw [beq_iff_eq]; omega
    go_enter Tryd.func161, Tryd.ntmps161
    go_wp2
    go_ret
    exact ⟨ret_bool (labC_yes (by omega)).symm, rfl⟩
  · have b1 : decide ((97 : Int) ≤ (n : Int)) = false := by rw [decide_eq_false_iff_not]; omega
    have b2 : decide ((48 : Int) ≤ (n : Int)) = false := by rw [decide_eq_false_iff_not]; omega
    have b3 : ((n : Int) == 45) = false := by rw [beq_eq_false_iff_ne]; omega
    go_enter Tryd.func161, Tryd.ntmps161
    go_wp2
    go_ret
    exact ⟨ret_bool (labC_no (by omega)).symm, rfl⟩
  · have b1 : decide ((97 : Int) ≤ (n : Int)) = false := by rw [decide_eq_false_iff_not]; omega
    go_enter Tryd.func161, Tryd.ntmps161
    go_wp2
    go_ret
    exact ⟨ret_bool (labC_yes (by omega)).symm, rfl⟩
  · have b1 : decide ((97 : Int) ≤ (n : Int)) = false := by rw [decide_eq_false_iff_not]; omega
    have b2 : decide ((n : Int) ≤ 57) = false := by rw [decide_eq_false_iff_not]; omega
    have b3 : ((n : Int) == 45) = false := by rw [beq_eq_false_iff_ne]; omega
    go_enter Tryd.func161, Tryd.ntmps161
    go_wp2
    go_ret
    exact ⟨ret_bool (labC_no (by omega)).symm, rfl⟩
  · go_enter Tryd.func161, Tryd.ntmps161
    go_wp2
    go_ret
    exact ⟨ret_bool (labC_yes (by omega)).symm, rfl⟩
  · have b1 : decide ((n : Int) ≤ 122) = false := by rw [decide_eq_false_iff_not]; omega
    have b2 : decide ((n : Int) ≤ 57) = false := by rw [decide_eq_false_iff_not]; omega
    have b3 : ((n : Int) == 45) = false := by rw [beq_eq_false_iff_ne]; omega
    go_enter Tryd.func161, Tryd.ntmps161
    go_wp2
    go_ret
    exact ⟨ret_bool (labC_no (by omega)).symm, rfl⟩

set_option maxRecDepth 10000 in
set_option maxHeartbeats 400000 in
theorem labelRight_any (t : ByteArray) (w : World) (ht : t.size ≤ 9223372036854775807) :
    Calls Tryd.prog 130 #[.string t] w fun e w' => e = .returned (.bool (labelB t)) ∧ Below w.heap.size w w' := by
  by_cases h1 : t.size < 1
  · have q1 : decide ((t.size : Int) - 1 < 0) = true := by rw [decide_eq_true_iff]; omega
    go_enter Tryd.func130, Tryd.ntmps130
    go_wp2
    go_ret
    exact ⟨ret_bool (labelB_size (.inl h1)).symm, Below.refl _ _⟩
  have q1 : decide ((t.size : Int) - 1 < 0) = false := by rw [decide_eq_false_iff_not]; omega
  by_cases h2 : 12 < t.size
  · have q2 : decide ((12 : Int) ≤ (t.size : Int) - 1) = true := by rw [decide_eq_true_iff]; omega
    go_enter Tryd.func130, Tryd.ntmps130
    go_wp2
    go_ret
    exact ⟨ret_bool (labelB_size (.inr h2)).symm, Below.refl _ _⟩
  have q2 : decide ((12 : Int) ≤ (t.size : Int) - 1) = false := by rw [decide_eq_false_iff_not]; omega
  have hp : 0 < t.size := by omega
  have hl : t.size - 1 < t.size := by omega
  by_cases h3 : t[0].toNat = 45
  · have q3 : ((t[0].toNat : Int) == 45) = true := by rw [beq_iff_eq]; omega
    have H3 : Hid (t[0].toNat = 45) := h3
    clear h3
    go_enter Tryd.func130, Tryd.ntmps130
    go_wp2
    go_ret
    exact ⟨ret_bool (labelB_first hp H3.out).symm, Below.refl _ _⟩
  have q3 : ((t[0].toNat : Int) == 45) = false := by rw [beq_eq_false_iff_ne]; omega
  have H3 : Hid (¬ t[0].toNat = 45) := h3
  clear h3
  by_cases h4 : t[t.size - 1].toNat = 45
  · have q4 : ((t[t.size - 1].toNat : Int) == 45) = true := by rw [beq_iff_eq]; omega
    have H4 : Hid (t[t.size - 1].toNat = 45) := h4
    clear h4
    go_enter Tryd.func130, Tryd.ntmps130
    go_wp2
    go_ret
    exact ⟨ret_bool (labelB_last hl H4.out).symm, Below.refl _ _⟩
  have q4 : ((t[t.size - 1].toNat : Int) == 45) = false := by rw [beq_eq_false_iff_ne]; omega
  have H4 : Hid (¬ t[t.size - 1].toNat = 45) := h4
  clear h4
  go_enter Tryd.func130, Tryd.ntmps130
  go_wp2
  go_loopw [5] (fun _ wr => ∃ k : Nat, k ≤ t.size ∧ wr = w.iter t k ∧ Hid (∀ i (h : i < t.size), i < k → labC t[i].toNat = true)) (fun _ wr => t.size - wr.iterPos w.heap.size)
  case atStart => exact ⟨0, Nat.zero_le _, rfl, fun i _ hi => absurd hi (by omega)⟩
  case round =>
    obtain ⟨k, hk, rfl, HR⟩ := hrel
    by_cases hlt : k < t.size
    · by_cases ha : t[k].toNat < 128
      · have hnx : ∀ ty, (Instr.next (.pointer (some ⟨w.heap.size, 0, none⟩)) true ty).run Tryd.prog (w.iter t k) = _ := fun ty => run_next_ascii w t k ty hlt ha
        cases hc : labC t[k].toNat with
        | true =>
          have HC : Hid (∀ W, Calls Tryd.prog 161 #[.int .i32 (t[k].toNat : Int)] W fun e w' => e = .returned (.bool true) ∧ w' = W) := fun W => by rw [← hc]; exact inLabel_any _ W
          have HK : Hid (labC t[k].toNat = true) := hc
          clear hc
          go_wp2_with (go_at_call 161; refine (HC.out _).mono ?_; rintro e w2 ⟨rfl, rfl⟩)
          go_roundw
          case rel => exact ⟨k + 1, by omega, rfl, all_succ HR.out hlt HK.out⟩
          case measure => simp; omega
        | false =>
          have HC : Hid (∀ W, Calls Tryd.prog 161 #[.int .i32 (t[k].toNat : Int)] W fun e w' => e = .returned (.bool false) ∧ w' = W) := fun W => by rw [← hc]; exact inLabel_any _ W
          have HK : Hid (labelB t = false) := labelB_at k hlt hc
          clear hc
          go_wp2_with (go_at_call 161; refine (HC.out _).mono ?_; rintro e w2 ⟨rfl, rfl⟩)
          go_ret
          exact ⟨ret_bool HK.out.symm, (Below.refl _ _).alloc (Nat.le_refl _) _⟩
      · have hnx : ∀ ty, (Instr.next (.pointer (some ⟨w.heap.size, 0, none⟩)) true ty).run Tryd.prog (w.iter t k) = _ := fun ty => run_next_any w t k ty hlt
        have hd := (decode_high t k hlt (by omega)).1
        have HK : Hid (labelB t = false) := labelB_at k hlt (labC_no (by omega))
        generalize Utf8.decode t k = d at *
        obtain ⟨r, n⟩ := d
        have hd2 : 128 ≤ r := hd
        have HC : Hid (∀ W, Calls Tryd.prog 161 #[.int .i32 (r : Int)] W fun e w' => e = .returned (.bool false) ∧ w' = W) := fun W => by
          have := inLabel_any r W
          rw [labC_no (by omega)] at this; exact this
        clear hd hd2
        go_wp2_with (go_at_call 161; refine (HC.out _).mono ?_; rintro e w2 ⟨rfl, rfl⟩)
        go_ret
        exact ⟨ret_bool HK.out.symm, (Below.refl _ _).alloc (Nat.le_refl _) _⟩
    · have hnx : ∀ ty, (Instr.next (.pointer (some ⟨w.heap.size, 0, none⟩)) true ty).run Tryd.prog (w.iter t k) = _ := fun ty => run_next_end w t k ty hlt
      go_wp2
      go_ret
      exact ⟨ret_bool (labelB_true (by omega) (by omega) (fun _ => H3.out) (fun _ => H4.out) (fun i h => HR.out i h (by omega))).symm, (Below.refl _ _).alloc (Nat.le_refl _) _⟩
end Go.Proofs.YtfoekelhcmlagaaDoor

/- The walk of the program's HostRight. -/
namespace Go.Proofs.YtfoekelhcmlagaaDoor
open Go.RowKit

theorem mem_le_sum : ∀ {l : List Nat} {x : Nat}, x ∈ l → x ≤ l.sum
  | [], _, h => by cases h
  | a :: l, x, h => by
    rw [List.sum_cons]
    cases h with
    | head => omega
    | tail _ h => have := mem_le_sum h; omega
theorem piece_le {s x : ByteArray} (hx : x ∈ splitB s 46) : x.size ≤ s.size := by
  have h1 : x.data.toList ∈ cutL 46 s.data.toList := by rw [← splitB_cut]; exact List.mem_map.2 ⟨x, hx, rfl⟩
  have h2 := cutL_sum 46 s.data.toList
  have h3 : (x.data.toList.length + 1) ≤ ((cutL 46 s.data.toList).map (fun p => p.length + 1)).sum := mem_le_sum (List.mem_map.2 ⟨_, h1, rfl⟩)
  rw [h2, ← Lib.size_eq, ← Lib.size_eq] at h3
  omega
set_option maxRecDepth 10000 in
set_option maxHeartbeats 400000 in
theorem hostRight_any (s : ByteArray) (w : World) (hG : MaxI w) (hs : s.size ≤ 1048576) :
    Calls Tryd.prog 71 #[.string s] w fun e w' => e = .returned (.bool (hostB s)) ∧ Below w.heap.size w w' := by
  have HC : Hid (∀ W, MaxI W → Calls Tryd.prog 78 #[.string s, .string ⟨#[46]⟩] W fun e w' => e = .returned (.slice (some ⟨W.heap.size, 0, none⟩) (splitB s 46).length (splitB s 46).length) ∧ w' = W.alloc (.cells (strCells (splitB s 46)).toArray 9)) := fun W h => split_call s W h (by omega)
  have HA : Hid ((∀ k (h : k < (splitB s 46).length), labelB ((splitB s 46)[k]) = false → hostB s = false) ∧ ((splitB s 46).length ≤ 6 → (∀ k (h : k < (splitB s 46).length), labelB ((splitB s 46)[k]) = true) → hostB s = true) ∧ (6 < (splitB s 46).length → hostB s = false)) :=
    ⟨fun k h hl => hostB_at k h hl, fun h1 h2 => hostB_six h1 h2, fun h => hostB_many h⟩
  have hn := splitB_len s 46
  have HZ : Hid (∀ x ∈ splitB s 46, x.size ≤ s.size) := fun x hx => piece_le hx
  generalize splitB s 46 = L at *
  have HG : Hid (MaxI w) := hG
  clear hG
  go_enter Tryd.func71, Tryd.ntmps71
  go_wp2_with fail
  refine (HC.out _ HG.out).mono ?_
  rintro e w1 ⟨rfl, rfl⟩
  by_cases h6 : 6 < L.length
  · go_wp2
    go_ret
    exact ⟨ret_bool (HA.out.2.2 h6).symm, (Below.refl _ _).alloc (Nat.le_refl _) _⟩
  have q6 : decide ((6 : Int) < (L.length : Int)) = false := by rw [decide_eq_false_iff_not]; omega
  have hcell : ∀ k (h : k < L.length), (w.alloc (.cells (strCells L).toArray 9)).cell? ⟨w.heap.size, k, none⟩ = some (.string L[k]) := by
    intro k hk
    simp [strCells, hk]
  have hb : Below w.heap.size w (w.alloc (.cells (strCells L).toArray 9)) := (Below.refl _ _).alloc (Nat.le_refl _) _
  have hz1 : w.heap.size < (w.alloc (.cells (strCells L).toArray 9)).heap.size := by simp
  generalize w.alloc (.cells (strCells L).toArray 9) = w1 at *
  go_wp2
  go_loopw [13] (fun i wr => ∃ k : Nat, k ≤ L.length ∧ i = .int .i64 k ∧ Below w1.heap.size w1 wr ∧ Hid (∀ j (h : j < L.length), j < k → labelB L[j] = true)) (fun i _ => L.length - (intOf i).toNat)
  case atStart => exact ⟨0, by omega, rfl, Below.refl _ _, fun j _ hj => absurd hj (by omega)⟩
  case round =>
    obtain ⟨k, hk, rfl, hb2, HR⟩ := hrel
    by_cases hlt : k < L.length
    · have hc1 := hcell k hlt
      have hck : wr.cell? ⟨w.heap.size, k, none⟩ = some (.string L[k]) := by rw [(bcell hb2).1 _ _ hz1]; exact hc1
      have HL : Hid (∀ W, Calls Tryd.prog 130 #[.string L[k]] W fun e w' => e = .returned (.bool (labelB L[k])) ∧ Below W.heap.size W w') := fun W => labelRight_any L[k] W (by have := HZ.out L[k] (List.getElem_mem hlt); omega)
      have HB2 : Hid (Below w1.heap.size w1 wr) := hb2
      have hz2 := hb2.size
      cases hlab : labelB L[k] with
      | true =>
        have HL2 : Hid (labelB L[k] = true) := hlab
        rw [hlab] at HL
        clear hlab hcell hc1 hb2
        generalize hx : L[k] = x at *
        have HX : Hid (L[k] = x) := hx
        clear hx
        go_wp2_with (go_at_call 130; refine (HL.out _).mono ?_; rintro e w2 ⟨rfl, hb3⟩)
        go_roundw
        case rel =>
          refine ⟨k + 1, by omega, by go_num, HB2.out.trans (hb3.mono hz2), ?_⟩
          intro j hj hjk
          by_cases e : j = k
          · subst e; rw [HX.out]; exact HL2.out
          · exact HR.out j hj (by omega)
        case measure => simp [intOf]; omega
      | false =>
        have HF : Hid (hostB s = false) := HA.out.1 k hlt hlab
        rw [hlab] at HL
        clear hlab hcell hc1 hb2
        generalize L[k] = x at *
        go_wp2_with (go_at_call 130; refine (HL.out _).mono ?_; rintro e w2 ⟨rfl, hb3⟩)
        go_ret
        exact ⟨ret_bool HF.out.symm, hb.trans ((HB2.out.trans (hb3.mono hz2)).mono hb.size)⟩
    · have HF : Hid (hostB s = true) := HA.out.2.1 (by omega) (fun j hj => HR.out j hj (by omega))
      clear hcell
      go_wp2
      go_ret
      exact ⟨ret_bool HF.out.symm, hb.trans (hb2.mono hb.size)⟩
end Go.Proofs.YtfoekelhcmlagaaDoor

/- The walk of the program's RuleRight. -/
namespace Go.Proofs.YtfoekelhcmlagaaDoor
open Go.RowKit

theorem cutBang_call (s : ByteArray) (w : World) :
    Calls Tryd.prog 85 #[.string s, .string ⟨#[33]⟩] w fun e w' => e = .returned (.tuple #[.string (unbang s), .bool (bangB s)]) ∧ w' = w := by
  have h := Any.strings_CutPrefix Tryd.lays103 s ⟨#[33]⟩ w
  rw [bangB_lib]
  exact h
theorem trimStar_call (s : ByteArray) (w : World) :
    Calls Tryd.prog 87 #[.string s, .string ⟨#[42, 46]⟩] w fun e w' => e = .returned (.string (unstar s)) ∧ w' = w :=
  Any.strings_TrimPrefix Tryd.lays101 s ⟨#[42, 46]⟩ w
theorem hasPoint_call (s : ByteArray) (w : World) :
    Calls Tryd.prog 86 #[.string s, .string ⟨#[46]⟩] w fun e w' => e = .returned (.bool (decide (0 ≤ Lib.indexByte s.data.toList 46))) ∧ w' = w :=
  Any.strings_Contains_one Tryd.lays144 s 46 w

set_option maxRecDepth 10000 in
set_option maxHeartbeats 400000 in
theorem ruleRight_any (s : ByteArray) (w : World) (hG : MaxI w) (hs : s.size ≤ 1048576) :
    Calls Tryd.prog 21 #[.string s] w fun e w' => e = .returned (.bool (ruleB s)) ∧ Below w.heap.size w w' := by
  have HC : Hid (∀ W, Calls Tryd.prog 85 #[.string s, .string ⟨#[33]⟩] W fun e w' => e = .returned (.tuple #[.string (unbang s), .bool (bangB s)]) ∧ w' = W) := fun W => cutBang_call s W
  cases hb : bangB s with
  | true =>
    have HR : Hid (ruleB s = (hostB (unbang s) && decide (0 ≤ Lib.indexByte (unbang s).data.toList 46))) := ruleB_yes hb
    rw [hb] at HC
    have hz := unbang_le s
    have HH : Hid (Calls Tryd.prog 71 #[.string (unbang s)] w fun e w' => e = .returned (.bool (hostB (unbang s))) ∧ Below w.heap.size w w') := hostRight_any (unbang s) w hG (by omega)
    have HP : Hid (∀ W, Calls Tryd.prog 86 #[.string (unbang s), .string ⟨#[46]⟩] W fun e w' => e = .returned (.bool (decide (0 ≤ Lib.indexByte (unbang s).data.toList 46))) ∧ w' = W) := fun W => hasPoint_call (unbang s) W
    clear hb hG hz
    generalize decide (0 ≤ Lib.indexByte (unbang s).data.toList 46) = p at *
    generalize hostB (unbang s) = b at *
    generalize unbang s = u at *
    cases b with
    | false =>
      go_enter Tryd.func21, Tryd.ntmps21
      go_wp2_with (first | (go_at_call 85; refine (HC.out _).mono ?_; rintro e w1 ⟨rfl, rfl⟩) | (go_at_call 71; refine HH.out.mono ?_; rintro e w2 ⟨rfl, hb2⟩))
      go_ret
      exact ⟨ret_bool (by rw [HR.out]; rfl), hb2⟩
    | true =>
      go_enter Tryd.func21, Tryd.ntmps21
      go_wp2_with (first | (go_at_call 85; refine (HC.out _).mono ?_; rintro e w1 ⟨rfl, rfl⟩) | (go_at_call 71; refine HH.out.mono ?_; rintro e w2 ⟨rfl, hb2⟩) | (go_at_call 86; refine (HP.out _).mono ?_; rintro e w3 ⟨rfl, rfl⟩))
      go_ret
      exact ⟨ret_bool (by rw [HR.out]; rfl), hb2⟩
  | false =>
    have HR : Hid (ruleB s = hostB (unstar s)) := ruleB_no hb
    rw [hb] at HC
    have hz := unstar_le s
    have HH : Hid (Calls Tryd.prog 71 #[.string (unstar s)] w fun e w' => e = .returned (.bool (hostB (unstar s))) ∧ Below w.heap.size w w') := hostRight_any (unstar s) w hG (by omega)
    have HP : Hid (∀ W, Calls Tryd.prog 87 #[.string s, .string ⟨#[42, 46]⟩] W fun e w' => e = .returned (.string (unstar s)) ∧ w' = W) := fun W => trimStar_call s W
    clear hb hG hz
    generalize hostB (unstar s) = b at *
    generalize unstar s = u at *
    go_enter Tryd.func21, Tryd.ntmps21
    go_wp2_with (first | (go_at_call 85; refine (HC.out _).mono ?_; rintro e w1 ⟨rfl, rfl⟩) | (go_at_call 71; refine HH.out.mono ?_; rintro e w2 ⟨rfl, hb2⟩) | (go_at_call 87; refine (HP.out _).mono ?_; rintro e w3 ⟨rfl, rfl⟩))
    go_ret
    exact ⟨ret_bool (by rw [HR.out]), hb2⟩
end Go.Proofs.YtfoekelhcmlagaaDoor

/- The walk of the program's rulesApart. -/
namespace Go.Proofs.YtfoekelhcmlagaaDoor
open Go.RowKit

/-- two slices lie in two rows -/
def Apart (u v : Value) : Prop := ∀ b, u.ownBlock = some b → ¬ v.ownBlock = some b
theorem own_kept {w w' : World} {base n size : Nat} {e : TypeId} {v : Value} {xs : List Value} {row : Option Nat} (h : w.ownsRow base e size v n xs) (hg : w.grownBy w' row) (hne : ∀ b, v.ownBlock = some b → ¬ row = some b) : w'.ownsRow base e size v n xs := by
  obtain ⟨hl, ⟨rfl, h0⟩ | ⟨g, cap, cur, rfl, hb, hh, r⟩⟩ := h
  · exact ⟨hl, .inl ⟨rfl, h0⟩⟩
  · refine ⟨hl, .inr ⟨g, cap, cur, rfl, hb, ?_, r⟩⟩
    rw [hg.block g (Array.getElem?_eq_some_iff.mp hh).1 (fun e => hne g rfl (by simpa using e.symm))]
    exact hh
theorem own_lt {w : World} {base n size : Nat} {e : TypeId} {v : Value} {xs : List Value} (h : w.ownsRow base e size v n xs) : ∀ b, v.ownBlock = some b → b < w.heap.size := by
  intro b hb
  obtain ⟨hl, ⟨rfl, h0⟩ | ⟨g, cap, cur, rfl, _, hh, r⟩⟩ := h
  · cases hb
  · obtain rfl : g = b := by simpa [Value.ownBlock] using hb
    exact (Array.getElem?_eq_some_iff.mp hh).1
theorem Apart.symm {u v : Value} (h : Apart u v) : Apart v u := fun b hb hc => h b hc hb
theorem Apart.step {u u' v : Value} {k : Nat} (h : Apart u v) (hat : u'.ownBlock = u.ownBlock ∨ u'.ownBlock = some k) (hv : ∀ b, v.ownBlock = some b → b < k) : Apart u' v := by
  intro b hb hc
  rcases hat with e | e
  · rw [e] at hb; exact h b hb hc
  · rw [e] at hb
    obtain rfl := Option.some.inj hb
    exact absurd (hv _ hc) (by omega)

set_option maxRecDepth 10000 in
set_option maxHeartbeats 2000000 in
theorem apart_any (v : Value) (n B : Nat) (f : Nat → ByteArray) (w : World) (hs : SliceS w B v n f) (hn : n ≤ 1048576) :
    Calls Tryd.prog 131 #[v] w fun e w' => ∃ ve vo, e = .returned (.tuple #[ve, vo]) ∧ SliceS w' w.heap.size ve (exL f n).length (atL (exL f n)) ∧ SliceS w' w.heap.size vo (otL f n).length (atL (otL f n)) ∧ Below w.heap.size w w' := by
  obtain ⟨i0, hi, hz0, hz1, hz2⟩ := info_parts infoStr
  obtain ⟨p, cap, rfl, hg⟩ := hs
  have HG : Hid (0 < n → ∃ g, p = some ⟨g, 0, none⟩ ∧ B ≤ g ∧ g < w.heap.size ∧ ∀ j, j < n → w.cell? ⟨g, j, none⟩ = some (.string (f j)) ∧ w.frozen? ⟨g, j, none⟩ = false) := hg
  clear hg
  go_enter Tryd.func131, Tryd.ntmps131
  go_wp2
  go_loopw [2, 3, 10] (fun ve vo i wr => ∃ k : Nat, k ≤ n ∧ i = .int .i64 k ∧ Hid (wr.ownsRow w.heap.size 9 1 ve (exL f k).length (strCells (exL f k))) ∧ Hid (wr.ownsRow w.heap.size 9 1 vo (otL f k).length (strCells (otL f k))) ∧ Hid (Apart ve vo) ∧ Hid (Below w.heap.size w wr)) (fun _ _ i _ => n - (intOf i).toNat)
  case atStart => exact ⟨0, Nat.zero_le _, rfl, World.ownsRow_nil _ _ _ _, World.ownsRow_nil _ _ _ _, (fun b hb => by simp [Value.ownBlock] at hb : Apart _ _), Below.refl _ _⟩
  case round =>
    obtain ⟨k, hk, rfl, HE, HO, HA, HB⟩ := hrel
    by_cases hlt : k < n
    · obtain ⟨g, rfl, -, hgw, hc⟩ := HG.out (by omega)
      have hck : wr.cell? ⟨g, k, none⟩ = some (.string (f k)) := by rw [(bcell HB.out).1 _ _ hgw]; exact (hc k hlt).1
      have KC0 := fun W => cutBang_call (f k) W
      have k0 : (0 : Int) ≤ k := by omega
      have k1 : (k : Int) < n := by omega
      have hbs := HB.out.size
      have hle := exL_len f k
      have hlo := otL_len f k
      clear hc
      cases hb : bangB (f k) with
      | true =>
        rw [hb] at KC0
        have KC : Hid (∀ W, Calls Tryd.prog 85 #[.string (f k), .string ⟨#[33]⟩] W fun e w' => e = .returned (.tuple #[.string (unbang (f k)), .bool true]) ∧ w' = W) := KC0
        have HE1 : Hid (exL f (k + 1) = exL f k ++ [unbang (f k)]) := by show _ = _; rw [exL, if_pos hb]
        have HO1 : Hid (otL f (k + 1) = otL f k) := by show _ = _; rw [otL, if_pos hb]
        clear KC0 hb
        generalize f k = t at *
        generalize unbang t = u at *
        go_wp2_with (first | (go_at_call 85; refine (KC.out _).mono ?_; rintro e w1 ⟨rfl, rfl⟩) | (at_builtin; go_must (refine wpList_append_own_at _ rfl _ _ 23 rfl w.heap.size 9 i0 (.string ⟨#[]⟩) 1 16 Tryd.underlying23 hi hz0 hz1 hz2 rfl (by decide) _ _ _ rfl (HE.out.alloc _) ⟨w1.heap.size, 0, none⟩ 1 1 [.string u] rfl rfl (cell_one_new _ _ _) (by intro u hu; simp at hu; subst hu; rfl) (by unfold maxLen; omega) (by omega) (by simp; omega) ?_)))
        intro v' w2 hown3 hgrow _ hat
        rw [strCells_snoc] at hown3
        have hb2 : Below w.heap.size w w2 := (HB.out.alloc hbs _).grown hgrow (by simp; omega) (fun j hj => (HE.out.lt j hj).1)
        have hO2 := own_kept (HO.out.alloc (.cells #[.string u] 9)) hgrow HA.out.symm
        have hA2 := HA.out.step hat (fun b hb => by have := own_lt HO.out b hb; simp; omega)
        have G1 : Hid (w2.ownsRow w.heap.size 9 1 v' (exL f k ++ [u]).length (strCells (exL f k ++ [u]))) := by show World.ownsRow _ _ _ _ _ _ _; simpa using hown3
        have G2 : Hid (w2.ownsRow w.heap.size 9 1 u3 (otL f k).length (strCells (otL f k))) := hO2
        have G3 : Hid (Apart v' u3) := hA2
        have G4 : Hid (Below w.heap.size w w2) := hb2
        clear hown3 hgrow hat hb2 hO2 hA2
        go_wp2
        go_roundw
        case rel => exact ⟨k + 1, by omega, by go_num, by rw [HE1.out]; exact G1, by rw [HO1.out]; exact G2, G3, G4⟩
        case measure => simp [intOf]; omega
      | false =>
        rw [hb] at KC0
        have KC : Hid (∀ W, Calls Tryd.prog 85 #[.string (f k), .string ⟨#[33]⟩] W fun e w' => e = .returned (.tuple #[.string (unbang (f k)), .bool false]) ∧ w' = W) := KC0
        have HE1 : Hid (exL f (k + 1) = exL f k) := by show _ = _; rw [exL, if_neg (by rw [hb]; decide)]
        have HO1 : Hid (otL f (k + 1) = otL f k ++ [f k]) := by show _ = _; rw [otL, if_neg (by rw [hb]; decide)]
        clear KC0 hb
        generalize f k = t at *
        generalize unbang t = u at *
        go_wp2_with (first | (go_at_call 85; refine (KC.out _).mono ?_; rintro e w1 ⟨rfl, rfl⟩) | (at_builtin; go_must (refine wpList_append_own_at _ rfl _ _ 23 rfl w.heap.size 9 i0 (.string ⟨#[]⟩) 1 16 Tryd.underlying23 hi hz0 hz1 hz2 rfl (by decide) _ _ _ rfl (HO.out.alloc _) ⟨w1.heap.size, 0, none⟩ 1 1 [.string t] rfl rfl (cell_one_new _ _ _) (by intro u hu; simp at hu; subst hu; rfl) (by unfold maxLen; omega) (by omega) (by simp; omega) ?_)))
        intro v' w2 hown3 hgrow _ hat
        rw [strCells_snoc] at hown3
        have hb2 : Below w.heap.size w w2 := (HB.out.alloc hbs _).grown hgrow (by simp; omega) (fun j hj => (HO.out.lt j hj).1)
        have hE2 := own_kept (HE.out.alloc (.cells #[.string t] 9)) hgrow HA.out
        have hA2 := (HA.out.symm.step hat (fun b hb => by have := own_lt HE.out b hb; simp; omega)).symm
        have G1 : Hid (w2.ownsRow w.heap.size 9 1 v' (otL f k ++ [t]).length (strCells (otL f k ++ [t]))) := by show World.ownsRow _ _ _ _ _ _ _; simpa using hown3
        have G2 : Hid (w2.ownsRow w.heap.size 9 1 u2 (exL f k).length (strCells (exL f k))) := hE2
        have G3 : Hid (Apart u2 v') := hA2
        have G4 : Hid (Below w.heap.size w w2) := hb2
        clear hown3 hgrow hat hb2 hE2 hA2
        go_wp2
        go_roundw
        case rel => exact ⟨k + 1, by omega, by go_num, by rw [HE1.out]; exact G2, by rw [HO1.out]; exact G1, G3, G4⟩
        case measure => simp [intOf]; omega
    · obtain rfl : k = n := by omega
      go_wp2
      go_ret2
      exact ⟨_, _, rfl, slice_of_own HE.out, slice_of_own HO.out, HB.out⟩
end Go.Proofs.YtfoekelhcmlagaaDoor

/- The walk of the program's suffixBegin. -/
namespace Go.Proofs.YtfoekelhcmlagaaDoor
open Go.RowKit

theorem atL_mem {L : List ByteArray} : ∀ x ∈ L, ∃ i, i < L.length ∧ x = atL L i := fun x hx => by
  obtain ⟨i, hi, e⟩ := List.getElem_of_mem hx
  exact ⟨i, hi, by simp [atL, hi, e]⟩
set_option maxRecDepth 10000 in
set_option maxHeartbeats 1000000 in
theorem begin_any (v1 v2 : Value) (n m B1 B2 : Nat) (f h : Nat → ByteArray) (w : World) (hG : MaxI w) (h1 : SliceS w B1 v1 n f) (h2 : SliceS w B2 v2 m h) (l1 : n ≤ 1048576) (l2 : m ≤ 1048576) (hm : 1 ≤ m) (hf : ∀ i, i < n → (f i).size ≤ 1048576) :
    Calls Tryd.prog 72 #[v1, v2] w fun e w' => e = .returned (.int .i64 (beginN n f m h : Nat)) ∧ Below w.heap.size w w' := by
  have H2 : Hid (SliceS w B2 v2 m h) := h2
  have HG : Hid (MaxI w) := hG
  have KA : Hid (Calls Tryd.prog 131 #[v1] w fun e w' => ∃ ve vo, e = .returned (.tuple #[ve, vo]) ∧ SliceS w' w.heap.size ve (exL f n).length (atL (exL f n)) ∧ SliceS w' w.heap.size vo (otL f n).length (atL (otL f n)) ∧ Below w.heap.size w w') := apart_any v1 n B1 f w h1 l1
  have e1 := exL_len f n
  have e2 := otL_len f n
  have KL : Hid (∀ (v : Value) (B : Nat) (W : World), MaxI W → SliceS W B v (exL f n).length (atL (exL f n)) → SliceS W B2 v2 m h → Calls Tryd.prog 132 #[v, v2] W fun e w' => e = .returned (.int .i64 (longN (exL f n) m h : Nat)) ∧ Below W.heap.size W w') :=
    fun v B W a b c => longest_any v v2 B B2 m (exL f n) h W a b c (by omega) l2 (exL_small hf)
  have KO : Hid (∀ (v : Value) (B : Nat) (W : World), MaxI W → SliceS W B v (otL f n).length (atL (otL f n)) → SliceS W B2 v2 m h → Calls Tryd.prog 132 #[v, v2] W fun e w' => e = .returned (.int .i64 (longN (otL f n) m h : Nat)) ∧ Below W.heap.size W w') :=
    fun v B W a b c => longest_any v v2 B B2 m (otL f n) h W a b c (by omega) l2 (otL_small hf)
  have b1 := longN_le (exL f n) m h
  have b2 := longN_le (otL f n) m h
  have EB : Hid (beginN n f m h = if longN (exL f n) m h < m then longN (exL f n) m h + 1 else min (longN (otL f n) m h) (m - 1)) := rfl
  obtain ⟨p2, c2, rfl, -⟩ := h2
  clear hG h1 hf e1 e2
  generalize beginN n f m h = R at *
  generalize longN (exL f n) m h = x at *
  generalize longN (otL f n) m h = y at *
  go_enter Tryd.func72, Tryd.ntmps72
  go_wp2_with fail
  refine KA.out.mono ?_
  rintro e w1 ⟨ve, vo, rfl, se, so, hb1⟩
  have SO : Hid (SliceS w1 w.heap.size vo (otL f n).length (atL (otL f n))) := so
  have SE : Hid (SliceS w1 w.heap.size ve (exL f n).length (atL (exL f n))) := se
  have B1' : Hid (Below w.heap.size w w1) := hb1
  clear se so hb1
  go_wp2_with fail
  refine (KL.out ve _ w1 (HG.out.on B1'.out) SE.out (H2.out.below B1'.out)).mono ?_
  rintro e w2 ⟨rfl, hb2⟩
  have SO2 : Hid (SliceS w2 w.heap.size vo (otL f n).length (atL (otL f n))) := SO.out.below hb2
  have B2' : Hid (Below w.heap.size w w2) := B1'.out.trans (hb2.mono B1'.out.size)
  clear hb2 SO SE
  by_cases hx : x < m
  · have HQ : Hid (R = x + 1) := by show _ = _; rw [EB.out, if_pos hx]
    go_wp2
    go_ret
    exact ⟨ret_int (by rw [HQ.out]; omega), B2'.out⟩
  · have HQ : Hid (R = min y (m - 1)) := by show _ = _; rw [EB.out, if_neg hx]
    have KO2 := KO.out vo _ w2 (HG.out.on B2'.out) SO2.out (H2.out.below B2'.out)
    go_wp2_with fail
    refine KO2.mono ?_
    rintro e w3 ⟨rfl, hb3⟩
    clear KO2
    go_wp2
    go_ret
    exact ⟨ret_int (by rw [HQ.out]; omega), B2'.out.trans (hb3.mono B2'.out.size)⟩
end Go.Proofs.YtfoekelhcmlagaaDoor

/- The walk of the specification's LabelsOf. -/
namespace Go.Proofs.YtfoekelhcmlagaaDoor
open Go.RowKit

end Go.Proofs.YtfoekelhcmlagaaDoor

/- The law FnExactLabelsOf, walked, over what the program's LabelsOf answers. -/
namespace Go.Proofs.YtfoekelhcmlagaaDoor
open Go.RowKit

/-- a right host's labels, else none -/
def labelsL (s : ByteArray) : List ByteArray := if hostB s = true then splitB s 46 else []
theorem labelsL_len (s : ByteArray) : (labelsL s).length ≤ 101 := by
  unfold labelsL
  split
  · rename_i h
    have hsz : s.size ≤ 100 := by
      by_cases hz : 100 < s.size
      · rw [hostB_size hz] at h; cases h
      · omega
    have := splitB_len s 46
    omega
  · simp

theorem SliceS.far {w w' : World} {B n : Nat} {v : Value} {f : Nat → ByteArray} {K : Nat} (h : SliceS w B v n f) (hK : w.heap.size ≤ K) {u : World} (hs : SliceS u B v n f) (hb : Below K u w') : SliceS w' B v n f := by
  cases n with
  | zero =>
    obtain ⟨p, cap, rfl, h⟩ := hs
    exact ⟨p, cap, rfl, fun h => absurd h (by omega)⟩
  | succ n => exact hs.kept hb (fun g cap m e => Nat.lt_of_lt_of_le (h.lt g cap m e) hK)

end Go.Proofs.YtfoekelhcmlagaaDoor

/- The walk of the program's LabelsOf. -/
namespace Go.Proofs.YtfoekelhcmlagaaDoor
open Go.RowKit

theorem atL_get {L : List ByteArray} {k : Nat} (h : k < L.length) : atL L k = L[k] := by simp [atL, h]

set_option maxRecDepth 10000 in
set_option maxHeartbeats 400000 in
theorem labelsOf_cap (s : ByteArray) (w : World) (hG : MaxI w) (hs : s.size ≤ 1048576) :
    Calls Tryd.prog 26 #[.string s] w fun e w' => ∃ v, e = .returned v ∧ SliceS w' w.heap.size v (labelsL s).length (atL (labelsL s)) ∧ Below w.heap.size w w' ∧ ∃ p c, v = .slice p (labelsL s).length c ∧ (labelsL s).length ≤ c := by
  cases hh : hostB s with
  | false =>
    have HL : Hid (labelsL s = []) := by
      show _ = _
      rw [labelsL, if_neg (by simp [hh])]
    have HC : Hid (Calls Tryd.prog 71 #[.string s] w fun e w' => e = .returned (.bool false) ∧ Below w.heap.size w w') := by
      have := hostRight_any s w hG hs
      rw [hh] at this; exact this
    clear hh hG
    go_enter Tryd.func26, Tryd.ntmps26
    go_wp2_with (go_at_call 71; refine HC.out.mono ?_; rintro e w1 ⟨rfl, hb⟩)
    go_ret
    exact ⟨_, rfl, by rw [HL.out]; exact ⟨none, 0, rfl, fun h => absurd h (by simp)⟩, hb, by rw [HL.out]; exact ⟨_, _, rfl, Nat.le_refl _⟩⟩
  | true =>
    have HL : Hid (labelsL s = splitB s 46) := by
      show _ = _
      rw [labelsL, if_pos hh]
    have HC : Hid (Calls Tryd.prog 71 #[.string s] w fun e w' => e = .returned (.bool true) ∧ Below w.heap.size w w') := by
      have := hostRight_any s w hG hs
      rw [hh] at this; exact this
    have HS : Hid (∀ W, MaxI W → Calls Tryd.prog 78 #[.string s, .string ⟨#[46]⟩] W fun e w' => e = .returned (.slice (some ⟨W.heap.size, 0, none⟩) (splitB s 46).length (splitB s 46).length) ∧ w' = W.alloc (.cells (strCells (splitB s 46)).toArray 9)) := fun W h => split_call s W h (by omega)
    have hn := splitB_len s 46
    have hsz : s.size ≤ 100 := by
      by_cases hz : 100 < s.size
      · rw [hostB_size hz] at hh; cases hh
      · omega
    have HZ : Hid (∀ x ∈ splitB s 46, x.size ≤ 100) := fun x hx => Nat.le_trans (piece_le hx) hsz
    have HG : Hid (MaxI w) := hG
    clear hh hG
    rw [HL.out]
    clear HL
    generalize splitB s 46 = L at *
    go_enter Tryd.func26, Tryd.ntmps26
    go_wp2_with (go_at_call 71; refine HC.out.mono ?_; rintro e w1 ⟨rfl, hb⟩)
    refine (HS.out _ (HG.out.on hb)).mono ?_
    rintro e w2 ⟨rfl, rfl⟩
    have hcell : ∀ k (h : k < L.length), (w1.alloc (.cells (strCells L).toArray 9)).cell? ⟨w1.heap.size, k, none⟩ = some (.string L[k]) ∧ (w1.alloc (.cells (strCells L).toArray 9)).frozen? ⟨w1.heap.size, k, none⟩ = false := by
      intro k hk
      exact ⟨by simp [strCells, hk], by simp⟩
    have hb2 : Below w.heap.size w (w1.alloc (.cells (strCells L).toArray 9)) := hb.alloc hb.size _
    have hz1 : w1.heap.size < (w1.alloc (.cells (strCells L).toArray 9)).heap.size := by simp
    have hz0 := hb.size
    generalize w1.alloc (.cells (strCells L).toArray 9) = w2 at *
    clear hb
    have HC0 : Hid (∀ k (h : k < L.length), w2.cell? ⟨w1.heap.size, k, none⟩ = some (.string L[k]) ∧ w2.frozen? ⟨w1.heap.size, k, none⟩ = false) := hcell
    have HB0 : Hid (Below w.heap.size w w2) := hb2
    clear hcell hb2
    go_wp2
    go_loopw [13] (fun i wr => ∃ k : Nat, k ≤ L.length ∧ i = .int .i64 k ∧ w1.heap.size < wr.heap.size ∧ Hid (Below w.heap.size w wr) ∧ Hid (∀ j (h : j < L.length), wr.cell? ⟨w1.heap.size, j, none⟩ = some (.string L[j]) ∧ wr.frozen? ⟨w1.heap.size, j, none⟩ = false)) (fun i _ => L.length - (intOf i).toNat)
    case atStart => exact ⟨0, by omega, rfl, hz1, HB0, HC0⟩
    case round =>
      obtain ⟨k, hk, rfl, hzr, HB, HR⟩ := hrel
      by_cases hlt : k < L.length
      · have hck := (HR.out k hlt).1
        have HT : Hid (∀ W, Calls Tryd.prog 79 #[.string L[k], .string ⟨#[]⟩] W fun e w' => e = .returned (.string L[k]) ∧ Below W.heap.size W w') := fun W => together_empty L[k] W (by have := HZ.out L[k] (List.getElem_mem hlt); omega)
        generalize hx : L[k] = x at *
        have HX : Hid (L[k] = x) := hx
        clear hx
        go_wp2_with fail
        refine (HT.out _).mono ?_
        rintro e w3 ⟨rfl, hb3⟩
        have hz3 := hb3.size
        have c1 : w3.cell? ⟨w1.heap.size, k, none⟩ = some (.string x) := by rw [(bcell hb3).1 _ _ hzr]; exact hck
        have c2 : w3.frozen? ⟨w1.heap.size, k, none⟩ = false := by rw [(bcell hb3).2 _ _ hzr]; exact (HR.out k hlt).2
        have HR3 : Hid (∀ j (h : j < L.length), w3.cell? ⟨w1.heap.size, j, none⟩ = some (.string L[j]) ∧ w3.frozen? ⟨w1.heap.size, j, none⟩ = false) := fun j hj => ⟨by rw [(bcell hb3).1 _ _ hzr]; exact (HR.out j hj).1, by rw [(bcell hb3).2 _ _ hzr]; exact (HR.out j hj).2⟩
        have HB3 : Hid (Below w.heap.size w w3) := HB.out.trans (hb3.mono (by omega))
        clear hb3 hck
        go_wp2
        go_roundw
        case rel =>
          refine ⟨k + 1, by omega, by go_num, ?_, ?_, ?_⟩
          · simp [World.setCell]; omega
          · exact HB3.out.setCell (by simpa using hz0) _
          · intro j hj
            by_cases e : j = k
            · subst e
              rw [HX.out]
              exact ⟨World.cell?_setCell_same _ _ _ c1, by rw [World.frozen?_setCell]; exact c2⟩
            · rw [World.cell?_setCell_other _ _ _ _ (by intro h; injection h with _ h; exact e h.symm), World.frozen?_setCell]
              exact HR3.out j hj
        case measure => simp [intOf]; omega
      · go_wp2
        go_ret
        exact ⟨_, rfl, ⟨_, _, rfl, fun _ => ⟨w1.heap.size, rfl, hz0, hzr, fun j hj => by rw [atL_get hj]; exact HR.out j hj⟩⟩, HB.out, _, _, rfl, Nat.le_refl _⟩
theorem labelsOf_any (s : ByteArray) (w : World) (hG : MaxI w) (hs : s.size ≤ 1048576) :
    Calls Tryd.prog 26 #[.string s] w fun e w' => ∃ v, e = .returned v ∧ SliceS w' w.heap.size v (labelsL s).length (atL (labelsL s)) ∧ Below w.heap.size w w' :=
  (labelsOf_cap s w hG hs).mono fun _ _ ⟨v, he, h1, h2, _⟩ => ⟨v, he, h1, h2⟩
end Go.Proofs.YtfoekelhcmlagaaDoor

/- The walk of the program's RulesRight. -/
namespace Go.Proofs.YtfoekelhcmlagaaDoor
open Go.RowKit

theorem rulesB_many {n : Nat} {f : Nat → ByteArray} (h : 20 < n) : rulesB n f = false := by unfold rulesB; rw [decide_eq_false (show ¬ n ≤ 20 by omega), Bool.and_false]

set_option maxRecDepth 10000 in
set_option maxHeartbeats 1000000 in
theorem rulesRight_any (v : Value) (n B : Nat) (f : Nat → ByteArray) (w : World) (hG : MaxI w) (hs : SliceS w B v n f) (hn : n ≤ 1048576) (hf : ∀ i, i < n → (f i).size ≤ 1048576) :
    Calls Tryd.prog 23 #[v] w fun e w' => e = .returned (.bool (rulesB n f)) ∧ Below w.heap.size w w' := by
  obtain ⟨p, cap, rfl, hg⟩ := hs
  by_cases h20 : 20 < n
  · have HR : Hid (rulesB n f = false) := rulesB_many h20
    go_enter Tryd.func23, Tryd.ntmps23
    go_wp2
    go_ret
    exact ⟨ret_bool HR.out.symm, Below.refl _ _⟩
  have HG : Hid (0 < n → ∃ g, p = some ⟨g, 0, none⟩ ∧ B ≤ g ∧ g < w.heap.size ∧ ∀ j, j < n → w.cell? ⟨g, j, none⟩ = some (.string (f j)) ∧ w.frozen? ⟨g, j, none⟩ = false) := hg
  have HM : Hid (MaxI w) := hG
  have HF : Hid (∀ i, i < n → (f i).size ≤ 1048576) := hf
  have HA : Hid ((∀ k, k < n → okR f k = false → rulesB n f = false) ∧ ((∀ i, i < n → okR f i = true) → rulesB n f = true)) := ⟨fun k h hk => rulesB_at k h hk, fun h => by rw [rulesB_all h, decide_eq_true_iff]; omega⟩
  clear hg hf hG
  have q20 : decide ((20 : Int) < (n : Int)) = false := by rw [decide_eq_false_iff_not]; omega
  have hge : ∀ (t : TypeId) (a b : ByteArray), binOp .geq t (.string a) (.string b) = pure (.bool (!(Op.bytesLess a.toList b.toList))) := geq_text
  generalize rulesB n f = R at *
  go_enter Tryd.func23, Tryd.ntmps23
  go_wp2
  go_loopw [10] (fun i wr => ∃ k : Nat, k ≤ n ∧ i = .int .i64 k ∧ Hid (Below w.heap.size w wr) ∧ Hid (∀ j, j < k → okR f j = true)) (fun i _ => n - (intOf i).toNat)
  case atStart => exact ⟨0, Nat.zero_le _, rfl, Below.refl _ _, fun j hj => absurd hj (by omega)⟩
  case round =>
    obtain ⟨k, hk, rfl, HB, HR⟩ := hrel
    by_cases hlt : k < n
    · obtain ⟨g, rfl, -, hgw, hc⟩ := HG.out (by omega)
      have hz : g < wr.heap.size := Nat.lt_of_lt_of_le hgw HB.out.size
      have hck : wr.cell? ⟨g, k, none⟩ = some (.string (f k)) := by rw [(bcell HB.out).1 _ _ hgw]; exact (hc k hlt).1
      have KR0 := ruleRight_any (f k) wr (HM.out.on HB.out) (HF.out k hlt)
      have k0 : (0 : Int) ≤ k := by omega
      have k1 : (k : Int) < n := by omega
      cases hr : ruleB (f k) with
      | false =>
        have HQ : Hid (R = false) := HA.out.1 k hlt (by cases k with | zero => exact hr | succ m => rw [okR, hr]; rfl)
        rw [hr] at KR0
        have KR : Hid (Calls Tryd.prog 21 #[.string (f k)] wr fun e w' => e = .returned (.bool false) ∧ Below wr.heap.size wr w') := KR0
        clear KR0 hr hc
        generalize f k = t at *
        go_wp2_with (go_at_call 21; refine KR.out.mono ?_; rintro e w1 ⟨rfl, hb1⟩)
        go_ret
        exact ⟨ret_bool HQ.out.symm, HB.out.trans (hb1.mono HB.out.size)⟩
      | true =>
        rw [hr] at KR0
        have KR : Hid (Calls Tryd.prog 21 #[.string (f k)] wr fun e w' => e = .returned (.bool true) ∧ Below wr.heap.size wr w') := KR0
        clear KR0
        cases k with
        | zero =>
          have HO : Hid (okR f 0 = true) := hr
          clear hr hc
          generalize f 0 = t at *
          go_wp2_with (go_at_call 21; refine KR.out.mono ?_; rintro e w1 ⟨rfl, hb1⟩)
          go_roundw
          case rel => exact ⟨1, by omega, by go_num, HB.out.trans (hb1.mono HB.out.size), okR_succ HR.out HO.out⟩
          case measure => simp [intOf]; omega
        | succ m =>
          have hcm : wr.cell? ⟨g, m, none⟩ = some (.string (f m)) := by rw [(bcell HB.out).1 _ _ hgw]; exact (hc m (by omega)).1
          have HCM : Hid (∀ w1, Below wr.heap.size wr w1 → w1.cell? ⟨g, m, none⟩ = some (.string (f m))) := fun w1 hb1 => by rw [(bcell hb1).1 _ _ hz]; exact hcm
          have hw : ((m + 1 : Nat) : Int) - 1 = (m : Int) := by omega
          cases hl : Op.bytesLess (f m).toList (f (m + 1)).toList with
          | true =>
            have HO : Hid (okR f (m + 1) = true) := by show _ = _; rw [okR, hr, hl]; rfl
            clear hr hc hcm
            generalize f m = t0 at *
            generalize f (m + 1) = t at *
            go_wp2_with (go_at_call 21; refine KR.out.mono ?_; rintro e w1 ⟨rfl, hb1⟩; have hcm1 := HCM.out w1 hb1)
            go_roundw
            case rel => exact ⟨m + 2, by omega, by go_num, HB.out.trans (hb1.mono HB.out.size), okR_succ HR.out HO.out⟩
            case measure => simp [intOf]; omega
          | false =>
            have HQ : Hid (R = false) := HA.out.1 (m + 1) hlt (by rw [okR, hr, hl]; rfl)
            clear hr hc hcm
            generalize f m = t0 at *
            generalize f (m + 1) = t at *
            go_wp2_with (go_at_call 21; refine KR.out.mono ?_; rintro e w1 ⟨rfl, hb1⟩; have hcm1 := HCM.out w1 hb1)
            go_ret
            exact ⟨ret_bool HQ.out.symm, HB.out.trans (hb1.mono HB.out.size)⟩
    · go_wp2
      go_ret
      exact ⟨ret_bool (HA.out.2 (fun i hi => HR.out i (by omega))).symm, HB.out⟩
end Go.Proofs.YtfoekelhcmlagaaDoor

/- What the specification puts together label by label is what the library joins. -/
namespace Go.Proofs.YtfoekelhcmlagaaDoor

theorem join_snoc (y sep : List UInt8) : ∀ xs : List (List UInt8), Lib.join (xs ++ [y]) sep = if xs = [] then y else Lib.join xs sep ++ sep ++ y
  | [] => by simp [Lib.join_one]
  | x :: xs => by
    rw [if_neg (by simp), List.cons_append, Lib.join_cons, Lib.join_cons]
    simp [Lib.joinTail]
/-- n texts from place d on -/
def partL (f : Nat → ByteArray) (d n : Nat) : List ByteArray := (List.range n).map (fun i => f (d + i))
theorem partL_len (f : Nat → ByteArray) (d n : Nat) : (partL f d n).length = n := by simp [partL]
theorem partL_get {f : Nat → ByteArray} {d n j : Nat} {x : ByteArray} (h : (partL f d n)[j]? = some x) : j < n ∧ x = f (d + j) := by
  have hj : j < n := by
    have := (List.getElem?_eq_some_iff.1 h).1
    rwa [partL_len] at this
  refine ⟨hj, ?_⟩
  simp [partL, hj] at h
  exact h.symm
theorem tailN_pos {f : Nat → ByteArray} {d : Nat} : ∀ {j}, (∀ i, i < j + 1 → 0 < (f (d + i)).size) → 0 < (tailN f d (j + 1)).size
  | j, h => by
    have := h j (by omega)
    rw [tailN]
    split
    · rw [ByteArray.size_append]; omega
    · rw [ByteArray.size_append, ByteArray.size_append]; omega
theorem tail_join {f : Nat → ByteArray} {d : Nat} : ∀ j, (∀ i, i < j → 0 < (f (d + i)).size) → (tailN f d j).data.toList = Lib.join ((partL f d j).map (·.data.toList)) [46]
  | 0, _ => by simp [tailN, partL, Lib.join_nil]
  | j + 1, h => by
    have ih := tail_join j (fun i hi => h i (by omega))
    have e : (partL f d (j + 1)).map (·.data.toList) = (partL f d j).map (·.data.toList) ++ [(f (d + j)).data.toList] := by simp [partL, List.range_succ]
    rw [e, join_snoc, ← ih]
    cases j with
    | zero =>
      rw [if_pos (by simp [partL])]
      rw [tailN, if_pos (by simp [tailN, Lib.toList_data])]
      simp [tailN]
    | succ j =>
      have hp := tailN_pos (f := f) (d := d) (j := j) (fun i hi => h i (by omega))
      have hne : (tailN f d (j + 1)).toList.isEmpty = false := by
        rw [Lib.toList_data, List.isEmpty_eq_false_iff]
        intro e0
        rw [Lib.size_eq, e0] at hp
        exact absurd hp (by simp)
      rw [if_neg (by simp [partL, List.range_succ])]
      rw [tailN.eq_def f d (j + 1 + 1)]
      simp only
      rw [if_neg (by rw [hne]; decide)]
      simp
end Go.Proofs.YtfoekelhcmlagaaDoor

/- A row of texts that is owned, joined by the library. -/
namespace Go.Proofs.YtfoekelhcmlagaaDoor
open Go.RowKit

theorem builderX : Builder.Extra Tryd.prog Tryd.lays156_ren where
  sizeBuilder := by kernel_rfl
  liesBuilder := by kernel_rfl
  t5 := Tryd.underlying5
  a5 := Tryd.isAgg5
  z5 := Tryd.sizeOf5
  v5 := Tryd.zeroValue5
  infoByte := by kernel_rfl
  cellsByte := by kernel_rfl
  sizeByte := by kernel_rfl
  neB5 := by decide
/-- texts with sep between -/
def joinB (L : List ByteArray) (sep : ByteArray) : ByteArray := ⟨(Lib.join (L.map (·.data.toList)) sep.data.toList).toArray⟩
theorem join_own (L : List ByteArray) (v : Value) (B : Nat) (t : TypeId) (sep : ByteArray) (w : World) (h : w.ownsRow B t 1 v L.length (strCells L)) (hN : L.length ≤ 140737488355328) (hz : (joinB L sep).size ≤ 140737488355328) :
    Calls Tryd.prog 73 #[v, .string sep] w fun e w' => e = .returned (.string (joinB L sep)) ∧ Below w.heap.size w w' := by
  obtain ⟨p, c, rfl, hs⟩ := slice_of_own h
  by_cases h0 : L.length = 0
  · have hL : L = [] := List.length_eq_zero_iff.1 h0
    subst hL
    exact (Any.strings_Join_none Tryd.lays156 builderX p c sep w).mono fun _ _ ⟨h1, h2⟩ => ⟨h1, h2 ▸ Below.refl _ _⟩
  · obtain ⟨g, rfl, -, hg, hc⟩ := hs (by omega)
    have hcap : L.length ≤ c := by
      obtain ⟨_, ⟨e, h0'⟩ | ⟨g', cap, cur, e, _, _, hle, _⟩⟩ := h
      · omega
      · injection e with _ _ e3
        omega
    refine Any.strings_Join Tryd.lays156 builderX g 0 c L sep w (fun j x hj => ?_) hg hN hcap hz
    obtain ⟨hj1, rfl⟩ := List.getElem?_eq_some_iff.1 hj
    have e : atL L j = L[j] := by simp [atL, hj1]
    rw [Nat.zero_add, ← e]
    exact (hc j hj1).1
/-- a row of one text, built -/
theorem own_one (w : World) (t : TypeId) (x : ByteArray) : (w.alloc (.cells #[.string x] t)).ownsRow w.heap.size t 1 (.slice (some ⟨w.heap.size, 0, none⟩) 1 1) [x].length (strCells [x]) :=
  ⟨rfl, .inr ⟨w.heap.size, 1, #[.string x], rfl, Nat.le_refl _, heap_alloc_new w _, Nat.le_refl _, by decide, rfl, rfl⟩⟩
end Go.Proofs.YtfoekelhcmlagaaDoor

/- The walk of the program's SuffixOf. -/
namespace Go.Proofs.YtfoekelhcmlagaaDoor
open Go.RowKit

/-- labels from place d on, joined -/
theorem join_call (g d n c : Nat) (h : Nat → ByteArray) (w : World) (hg : g < w.heap.size) (hc : ∀ j, j < n → w.cell? ⟨g, d + j, none⟩ = some (.string (h (d + j)))) (hn : n ≤ 101) (hcap : n ≤ c) (hs : ∀ j, j < n → 0 < (h (d + j)).size ∧ (h (d + j)).size ≤ 100) :
    Calls Tryd.prog 73 #[.slice (some ⟨g, d, none⟩) n c, .string ⟨#[46]⟩] w fun e w' => e = .returned (.string (tailN h d n)) ∧ Below w.heap.size w w' := by
  have e := tail_join (f := h) (d := d) n (fun i hi => (hs i hi).1)
  have hz := tailN_size (f := h) (d := d) 100 n (fun i hi => (hs i hi).2)
  have k := Any.strings_Join Tryd.lays156 builderX g d c (partL h d n) ⟨#[46]⟩ w (fun j x hj => by obtain ⟨h1, rfl⟩ := partL_get hj; exact hc j h1) hg (by rw [partL_len]; omega) (by rw [partL_len]; exact hcap)
    (by
      have e2 : (⟨#[46]⟩ : ByteArray).data.toList = [46] := rfl
      rw [e2, ← e, ← Lib.size_eq]; omega)
  rw [partL_len] at k
  have e3 : (⟨(Lib.join ((partL h d n).map (·.data.toList)) (⟨#[46]⟩ : ByteArray).data.toList).toArray⟩ : ByteArray) = tailN h d n := by
    apply bytes_ext
    rw [e]
  rw [e3] at k
  exact k
theorem labelB_pos {t : ByteArray} (h : labelB t = true) : 0 < t.size := by
  by_cases hz : 0 < t.size
  · exact hz
  · rw [labelB_size (.inl (by omega))] at h; cases h
theorem host_labels {s : ByteArray} (h : hostB s = true) : 1 ≤ (splitB s 46).length ∧ (splitB s 46).length ≤ 101 ∧ ∀ i, i < (splitB s 46).length → 0 < (atL (splitB s 46) i).size ∧ (atL (splitB s 46) i).size ≤ 100 := by
  obtain ⟨m0, hm0⟩ := splitB_ne s 46
  have hz := hostB_pos h
  have hl := splitB_len s 46
  refine ⟨by omega, by omega, fun i hi => ?_⟩
  have e : atL (splitB s 46) i = (splitB s 46)[i] := by simp [atL, hi]
  rw [e]
  have ha : labelB (splitB s 46)[i] = true := by
    unfold hostB at h
    rw [Bool.and_eq_true, Bool.and_eq_true, List.all_eq_true] at h
    exact h.1.2 _ (List.getElem_mem hi)
  exact ⟨labelB_pos ha, Nat.le_trans (piece_le (List.getElem_mem hi)) hz.2⟩

set_option maxRecDepth 10000 in
set_option maxHeartbeats 4000000 in
theorem suffixOf_any (v : Value) (n B : Nat) (f : Nat → ByteArray) (s : ByteArray) (w : World) (hG : MaxI w) (hs : SliceS w B v n f) (l1 : n ≤ 1048576) (hf : ∀ i, i < n → (f i).size ≤ 1048576) (hz : s.size ≤ 1048576) :
    Calls Tryd.prog 14 #[v, .string s] w fun e w' => e = .returned (sufV (sufOf n f s).1 (sufOf n f s).2) ∧ Below w.heap.size w w' := by
  have HSl : Hid (SliceS w B v n f) := hs
  have HG : Hid (MaxI w) := hG
  have KR : Hid (∀ W, MaxI W → SliceS W B v n f → Calls Tryd.prog 23 #[v] W fun e w' => e = .returned (.bool (rulesB n f)) ∧ Below W.heap.size W w') := fun W a b => rulesRight_any v n B f W a b l1 hf
  have KH : Hid (∀ W, MaxI W → Calls Tryd.prog 71 #[.string s] W fun e w' => e = .returned (.bool (hostB s)) ∧ Below W.heap.size W w') := fun W a => hostRight_any s W a hz
  have HN : Hid (¬ (rulesB n f = true ∧ hostB s = true) → sufOf n f s = (⟨#[]⟩, ⟨#[]⟩)) := fun h => by rw [sufOf, if_neg h]
  have HY : Hid (rulesB n f = true → hostB s = true → sufOf n f s = (sufS n f s, sufD n f s)) := fun a b => by rw [sufOf, if_pos ⟨a, b⟩]
  have HU : Hid (∀ t : TypeId, U2 (w.alloc (.cells #[.string ⟨#[]⟩, .string ⟨#[]⟩] t)) w.heap.size) := fun t => ⟨by simp, by simp, by simp, fun o => by simp⟩
  have B0 : Hid (∀ t : TypeId, Below w.heap.size w (w.alloc (.cells #[.string ⟨#[]⟩, .string ⟨#[]⟩] t))) := fun t => (Below.refl _ _).alloc (Nat.le_refl _) _
  cases hrb : rulesB n f with
  | false =>
    have HZ : Hid (sufOf n f s = (⟨#[]⟩, ⟨#[]⟩)) := HN.out (fun a => by rw [hrb] at a; cases a.1)
    rw [hrb] at KR
    clear hrb hf hs hG HN HY
    generalize sufOf n f s = SO at *
    go_enter Tryd.func14, Tryd.ntmps14
    go_wp2_with fail
    refine (KR.out _ (HG.out.on (B0.out _)) (HSl.out.below (B0.out _))).mono ?_
    rintro e w1 ⟨rfl, hb1⟩
    obtain ⟨hz1, x0, x1, xf⟩ := (HU.out _).below hb1
    have B1' : Hid (Below w.heap.size w w1) := (B0.out _).trans (hb1.mono (by simp))
    clear hb1
    go_wp2
    exact bodyPost_ret (v := sufV ⟨#[]⟩ ⟨#[]⟩) (by simp [sufV, results, Tryd.results14, go_sem, x0, x1]) rfl ⟨by rw [HZ.out], Below.setCell (Below.setCell B1'.out (Nat.le_refl _) _) (Nat.le_refl _) _⟩
  | true =>
    cases hhb : hostB s with
    | false =>
      have HZ : Hid (sufOf n f s = (⟨#[]⟩, ⟨#[]⟩)) := HN.out (fun a => by rw [hhb] at a; cases a.2)
      rw [hrb] at KR
      rw [hhb] at KH
      clear hrb hhb hf hs hG HN HY
      generalize sufOf n f s = SO at *
      go_enter Tryd.func14, Tryd.ntmps14
      go_wp2_with fail
      refine (KR.out _ (HG.out.on (B0.out _)) (HSl.out.below (B0.out _))).mono ?_
      rintro e w1 ⟨rfl, hb1⟩
      have U1 := (HU.out _).below hb1
      have B1' : Hid (Below w.heap.size w w1) := (B0.out _).trans (hb1.mono (by simp))
      clear hb1
      go_wp2_with fail
      refine (KH.out _ (HG.out.on B1'.out)).mono ?_
      rintro e w2 ⟨rfl, hb2⟩
      obtain ⟨hz2, x0, x1, xf⟩ := U1.below hb2
      have B2' : Hid (Below w.heap.size w w2) := B1'.out.trans (hb2.mono B1'.out.size)
      clear hb2 U1
      go_wp2
      exact bodyPost_ret (v := sufV ⟨#[]⟩ ⟨#[]⟩) (by simp [sufV, results, Tryd.results14, go_sem, x0, x1]) rfl ⟨by rw [HZ.out], Below.setCell (Below.setCell B2'.out (Nat.le_refl _) _) (Nat.le_refl _) _⟩
    | true =>
      obtain ⟨hm1, hm2, hpc⟩ := host_labels hhb
      have HP : Hid (∀ i, i < (splitB s 46).length → 0 < (atL (splitB s 46) i).size ∧ (atL (splitB s 46) i).size ≤ 100) := hpc
      have eL : labelsL s = splitB s 46 := by rw [labelsL, if_pos hhb]
      have KL : Hid (∀ W, MaxI W → Calls Tryd.prog 26 #[.string s] W fun e w' => ∃ v, e = .returned v ∧ SliceS w' W.heap.size v (splitB s 46).length (atL (splitB s 46)) ∧ Below W.heap.size W w' ∧ ∃ p c, v = .slice p (splitB s 46).length c ∧ (splitB s 46).length ≤ c) := fun W a => by
        have := labelsOf_cap s W a hz
        rw [eL] at this; exact this
      have KB : Hid (∀ (v2 : Value) (B2 : Nat) (W : World), MaxI W → SliceS W B v n f → SliceS W B2 v2 (splitB s 46).length (atL (splitB s 46)) → Calls Tryd.prog 72 #[v, v2] W fun e w' => e = .returned (.int .i64 (beginN n f (splitB s 46).length (atL (splitB s 46)) : Nat)) ∧ Below W.heap.size W w') :=
        fun v2 B2 W a b c => begin_any v v2 n _ B B2 f _ W a b c l1 (by omega) hm1 hf
      obtain ⟨hbc, hble⟩ := beginN_count n f (atL (splitB s 46)) hm1
      have hcle := countN_le n f (atL (splitB s 46)) hm1
      have EC : countN n f (splitB s 46).length (atL (splitB s 46)) = sufC n f s := rfl
      have ES : Hid (sufS n f s = tailN (atL (splitB s 46)) ((splitB s 46).length - sufC n f s) (sufC n f s)) := rfl
      have ED : Hid (sufD n f s = if sufC n f s < (splitB s 46).length then tailN (atL (splitB s 46)) ((splitB s 46).length - (sufC n f s + 1)) (sufC n f s + 1) else ⟨#[]⟩) := rfl
      have HZ : Hid (sufOf n f s = (sufS n f s, sufD n f s)) := HY.out hrb hhb
      rw [EC] at hbc hcle
      rw [hrb] at KR
      rw [hhb] at KH
      clear hrb hhb hf hs hG HN HY hpc eL EC
      generalize sufOf n f s = SO at *
      generalize sufS n f s = sS at *
      generalize sufD n f s = sD at *
      generalize sufC n f s = c at *
      generalize beginN n f (splitB s 46).length (atL (splitB s 46)) = b at *
      generalize (splitB s 46).length = m at *
      generalize atL (splitB s 46) = h at *
      obtain rfl : c = m - b := by omega
      have ES1 : Hid (sS = tailN h b (m - b)) := by show _ = _; rw [ES.out, show m - (m - b) = b by omega]
      clear hbc hcle ES
      go_enter Tryd.func14, Tryd.ntmps14
      go_wp2_with fail
      refine (KR.out _ (HG.out.on (B0.out _)) (HSl.out.below (B0.out _))).mono ?_
      rintro e w1 ⟨rfl, hb1⟩
      have U1 : Hid (U2 w1 w.heap.size) := (HU.out _).below hb1
      have B1' : Hid (Below w.heap.size w w1) := (B0.out _).trans (hb1.mono (by simp))
      clear hb1
      go_wp2_with fail
      refine (KH.out _ (HG.out.on B1'.out)).mono ?_
      rintro e w2 ⟨rfl, hb2⟩
      have U2' : Hid (U2 w2 w.heap.size) := U1.out.below hb2
      have B2' : Hid (Below w.heap.size w w2) := B1'.out.trans (hb2.mono B1'.out.size)
      clear hb2 U1
      go_wp2_with fail
      refine (KL.out _ (HG.out.on B2'.out)).mono ?_
      rintro e w3 ⟨vL, rfl, hsl, hb3, pL, cL, rfl, hcL⟩
      have U3' : Hid (U2 w3 w.heap.size) := U2'.out.below hb3
      have B3' : Hid (Below w.heap.size w w3) := B2'.out.trans (hb3.mono B2'.out.size)
      have SL : Hid (SliceS w3 w2.heap.size (.slice pL m cL) m h) := hsl
      clear hb3 hsl U2'
      go_wp2_with fail
      refine (KB.out _ _ _ (HG.out.on B3'.out) (HSl.out.below B3'.out) SL.out).mono ?_
      rintro e w4 ⟨rfl, hb4⟩
      have U4' : Hid (U2 w4 w.heap.size) := U3'.out.below hb4
      have B4' : Hid (Below w.heap.size w w4) := B3'.out.trans (hb4.mono B3'.out.size)
      have SL4 := SL.out.below hb4
      clear hb4 U3' SL KL KB KR KH
      obtain ⟨p', c', e', hg'⟩ := SL4
      obtain ⟨g, rfl, hgB, hgw, hgc⟩ := hg' (by omega)
      obtain ⟨rfl, rfl⟩ : pL = some ⟨g, 0, none⟩ ∧ cL = c' := by injection e' with a b c; exact ⟨a, c⟩
      have HC : Hid (∀ j, j < m → w4.cell? ⟨g, j, none⟩ = some (.string (h j)) ∧ w4.frozen? ⟨g, j, none⟩ = false) := hgc
      clear e' hg' hgc hgB
      have KJ : Hid (∀ (d : Nat) (W : World), d ≤ m → Below w4.heap.size w4 W → Calls Tryd.prog 73 #[.slice (some ⟨g, d, none⟩) (m - d) (cL - d), .string ⟨#[46]⟩] W fun e w' => e = .returned (.string (tailN h d (m - d))) ∧ Below W.heap.size W w') :=
        fun d W hd hb => join_call g d (m - d) (cL - d) h W (Nat.lt_of_lt_of_le hgw hb.size) (fun j hj => by rw [(bcell hb).1 _ _ hgw]; exact (HC.out (d + j) (by omega)).1) (by omega) (by omega) (fun j hj => HP.out (d + j) (by omega))
      have KX : Hid (cL = b → Calls Tryd.prog 73 #[.slice (some ⟨g, 0, none⟩) (m - b) 0, .string ⟨#[46]⟩] w4 fun e w' => e = .returned (.string (tailN h b (m - b))) ∧ Below w4.heap.size w4 w') := fun e => by
        rw [show m - b = 0 by omega]
        exact (Any.strings_Join_none Tryd.lays156 builderX _ _ _ w4).mono fun _ _ ⟨h1, h2⟩ => ⟨h1, h2 ▸ Below.refl _ _⟩
      have b0 : (0 : Int) ≤ b := by omega
      have b1 : (b : Int) ≤ (m : Int) := by omega
      have b2 : (m : Int) ≤ (cL : Int) := by omega
      rw [← ES1.out] at KX
      have KJb : Hid (∀ W : World, Below w4.heap.size w4 W → Calls Tryd.prog 73 #[.slice (some ⟨g, b, none⟩) (m - b) (cL - b), .string ⟨#[46]⟩] W fun e w' => e = .returned (.string sS) ∧ Below W.heap.size W w') := fun W a => by
        have := KJ.out b W hble a
        rw [← ES1.out] at this; exact this
      have KD : Hid (0 < b → ∀ W : World, Below w4.heap.size w4 W → Calls Tryd.prog 73 #[.slice (some ⟨g, b - 1, none⟩) (m - (b - 1)) (cL - (b - 1)), .string ⟨#[46]⟩] W fun e w' => e = .returned (.string sD) ∧ Below W.heap.size W w') := fun hb W a => by
        have := KJ.out (b - 1) W (by omega) a
        rw [ED.out, if_pos (by omega), show m - (m - b + 1) = b - 1 by omega, show m - b + 1 = m - (b - 1) by omega]; exact this
      have KE : Hid (b = 0 → sD = ⟨#[]⟩) := fun hb => by rw [ED.out, if_neg (by omega)]
      clear KJ ES1 ED HP HC
      by_cases hb : b = 0
      · subst hb
        have hcb : ¬ cL = 0 := by omega
        have KJ0 : Hid (Calls Tryd.prog 73 #[.slice (some ⟨g, 0, none⟩) m cL, .string ⟨#[46]⟩] w4 fun e w' => e = .returned (.string sS) ∧ Below w4.heap.size w4 w') := KJb.out w4 (Below.refl _ _)
        have HD : Hid (sD = ⟨#[]⟩) := KE.out rfl
        go_wp2_with fail
        refine KJ0.out.mono ?_
        rintro e w5 ⟨rfl, hb5⟩
        obtain ⟨hz5, x0, x1, xf⟩ := U4'.out.below hb5
        have B5' : Hid (Below w.heap.size w w5) := B4'.out.trans (hb5.mono B4'.out.size)
        clear hb5
        go_wp2
        have y0 : (((w5.setCell ⟨w.heap.size, 0, none⟩ (.string sS)).setCell ⟨w.heap.size, 1, none⟩ (.string ⟨#[]⟩)).alloc (.cells #[.string sS, .string ⟨#[]⟩] 27)).cell? ⟨w.heap.size, 0, none⟩ = some (.string sS) := by
          rw [World.cell?_alloc_lt _ _ _ (by simpa [World.setCell] using hz5), World.cell?_setCell_other _ _ _ _ (by simp)]
          exact World.cell?_setCell_same _ _ _ x0
        have y1 : (((w5.setCell ⟨w.heap.size, 0, none⟩ (.string sS)).setCell ⟨w.heap.size, 1, none⟩ (.string ⟨#[]⟩)).alloc (.cells #[.string sS, .string ⟨#[]⟩] 27)).cell? ⟨w.heap.size, 1, none⟩ = some (.string ⟨#[]⟩) := by
          rw [World.cell?_alloc_lt _ _ _ (by simpa [World.setCell] using hz5)]
          exact World.cell?_setCell_same _ _ _ ((World.cell?_setCell_other _ _ _ _ (by simp)).trans x1)
        have yb : Below w.heap.size w (((w5.setCell ⟨w.heap.size, 0, none⟩ (.string sS)).setCell ⟨w.heap.size, 1, none⟩ (.string ⟨#[]⟩)).alloc (.cells #[.string sS, .string ⟨#[]⟩] 27)) := ((B5'.out.setCell (Nat.le_refl _) _).setCell (Nat.le_refl _) _).alloc (by simp [World.setCell]; omega) _
        generalize ((w5.setCell ⟨w.heap.size, 0, none⟩ (.string sS)).setCell ⟨w.heap.size, 1, none⟩ (.string ⟨#[]⟩)).alloc (.cells #[.string sS, .string ⟨#[]⟩] 27) = W at *
        exact bodyPost_ret (v := sufV sS ⟨#[]⟩) (by simp [sufV, results, Tryd.results14, go_sem, y0, y1]) rfl ⟨by rw [HZ.out, HD.out], yb⟩
      obtain ⟨d, rfl⟩ : ∃ d, b = d + 1 := ⟨b - 1, by omega⟩
      have KD2 : Hid (∀ W : World, Below w4.heap.size w4 W → Calls Tryd.prog 73 #[.slice (some ⟨g, d, none⟩) (m - d) (cL - d), .string ⟨#[46]⟩] W fun e w' => e = .returned (.string sD) ∧ Below W.heap.size W w') := KD.out (by omega)
      have q : decide ((0 : Int) < (d : Int) + 1) = true := by rw [decide_eq_true_iff]; omega
      have hcd : ¬ cL = d := by omega
      have hd0 : (0 : Int) ≤ (d : Int) := by omega
      have hd1 : (d : Int) ≤ (m : Int) := by omega
      have KD3 : Hid (cL = d + 1 → ∀ W : World, Below w4.heap.size w4 W → Calls Tryd.prog 73 #[.slice (some ⟨g, d, none⟩) (m - d) 1, .string ⟨#[46]⟩] W fun e w' => e = .returned (.string sD) ∧ Below W.heap.size W w') := fun e W a => by
        have := KD2.out W a
        rw [show cL - d = 1 by omega] at this; exact this
      clear KD KE hb
      by_cases hcb : cL = d + 1
      all_goals
        go_wp2_with fail
        first | refine (KX.out hcb).mono ?_ | refine (KJb.out w4 (Below.refl _ _)).mono ?_
        rintro e w5 ⟨rfl, hb5⟩
        have U5' : Hid (U2 w5 w.heap.size) := U4'.out.below hb5
        have B5' : Hid (Below w.heap.size w w5) := B4'.out.trans (hb5.mono B4'.out.size)
        have B45 : Hid (Below w4.heap.size w4 w5) := hb5
        have HA6 : Hid (Below w5.heap.size w5 (w5.alloc (.cells #[.string sS, .string ⟨#[]⟩] 27))) := (Below.refl _ _).alloc (Nat.le_refl _) _
        clear hb5
        go_wp2_with fail
        first | refine (KD3.out hcb _ (B45.out.trans (HA6.out.mono B45.out.size))).mono ?_ | refine (KD2.out _ (B45.out.trans (HA6.out.mono B45.out.size))).mono ?_
        rintro e w6 ⟨rfl, hb6⟩
        have U6 := (U5'.out.below HA6.out).below hb6
        have z0 : w6.cell? ⟨w5.heap.size, 0, none⟩ = some (.string sS) := by rw [(bcell hb6).1 _ _ (by simp)]; simp
        have z1 : w6.cell? ⟨w5.heap.size, 1, none⟩ = some (.string ⟨#[]⟩) := by rw [(bcell hb6).1 _ _ (by simp)]; simp
        have zf : ∀ o, w6.frozen? ⟨w5.heap.size, o, none⟩ = false := fun o => by rw [(bcell hb6).2 _ _ (by simp)]; simp
        have hz6 : w5.heap.size < w6.heap.size := by have := hb6.size; simp at this; omega
        have hne : ¬ w5.heap.size = w.heap.size := by have := U5'.out.1; omega
        have B6' : Hid (Below w.heap.size w w6) := (B5'.out.trans (HA6.out.mono B5'.out.size)).trans (hb6.mono (by have := B5'.out.size; simp; omega))
        obtain ⟨hzw, x0, x1, xf⟩ := U6
        clear hb6
        go_wp2
        have y0 : (((w6.setCell ⟨w5.heap.size, 1, none⟩ (.string sD)).setCell ⟨w.heap.size, 0, none⟩ (.string sS)).setCell ⟨w.heap.size, 1, none⟩ (.string sD)).cell? ⟨w.heap.size, 0, none⟩ = some (.string sS) := by
          rw [World.cell?_setCell_other _ _ _ _ (by simp)]
          exact World.cell?_setCell_same _ _ _ ((World.cell?_setCell_other _ _ _ _ (by simp)).trans x0)
        have y1 : (((w6.setCell ⟨w5.heap.size, 1, none⟩ (.string sD)).setCell ⟨w.heap.size, 0, none⟩ (.string sS)).setCell ⟨w.heap.size, 1, none⟩ (.string sD)).cell? ⟨w.heap.size, 1, none⟩ = some (.string sD) :=
          World.cell?_setCell_same _ _ _ ((World.cell?_setCell_other _ _ _ _ (by simp)).trans ((World.cell?_setCell_other _ _ _ _ (by simp)).trans x1))
        have yb : Below w.heap.size w (((w6.setCell ⟨w5.heap.size, 1, none⟩ (.string sD)).setCell ⟨w.heap.size, 0, none⟩ (.string sS)).setCell ⟨w.heap.size, 1, none⟩ (.string sD)) := ((B6'.out.setCell (by have := U5'.out.1; simp; omega) _).setCell (Nat.le_refl _) _).setCell (Nat.le_refl _) _
        generalize ((w6.setCell ⟨w5.heap.size, 1, none⟩ (.string sD)).setCell ⟨w.heap.size, 0, none⟩ (.string sS)).setCell ⟨w.heap.size, 1, none⟩ (.string sD) = W at *
        exact bodyPost_ret (v := sufV sS sD) (by simp [sufV, results, Tryd.results14, go_sem, y0, y1]) rfl ⟨by rw [HZ.out], yb⟩
end Go.Proofs.YtfoekelhcmlagaaDoor

/- The walk of the program's DomainRight. -/
namespace Go.Proofs.YtfoekelhcmlagaaDoor
open Go.RowKit

theorem domR_suf (n : Nat) (f : Nat → ByteArray) (s : ByteArray) : domR n f s = (!s.toList.isEmpty && ((sufOf n f s).2.toList == s.toList)) := by
  have e0 : s.toList.isEmpty = true → s.size = 0 := fun h => by
    rw [Lib.toList_data, List.isEmpty_iff] at h
    rw [Lib.size_eq, h]; rfl
  unfold domR domB sufOf
  cases hr : rulesB n f with
  | false =>
    cases he : s.toList.isEmpty with
    | true => rfl
    | false =>
      simp only [Bool.false_and, Bool.not_false, Bool.true_and, Bool.false_eq_true, false_and, if_false]
      symm
      rw [beq_eq_false_iff_ne]
      intro h
      rw [← h] at he
      rw [Lib.toList_data] at he; cases he
  | true =>
    cases hh : hostB s with
    | false =>
      cases he : s.toList.isEmpty with
      | true => rfl
      | false =>
        simp only [Bool.false_and, Bool.and_false, Bool.not_false, Bool.true_and, Bool.false_eq_true, and_false, if_false]
        symm
        rw [beq_eq_false_iff_ne]
        intro h
        rw [← h] at he
        rw [Lib.toList_data] at he; cases he
    | true =>
      have hp := (hostB_pos hh).1
      cases he : s.toList.isEmpty with
      | true => have := e0 he; omega
      | false => simp

set_option maxRecDepth 10000 in
set_option maxHeartbeats 1000000 in
theorem domainRight_any (v : Value) (n B : Nat) (f : Nat → ByteArray) (s : ByteArray) (w : World) (hG : MaxI w) (hs : SliceS w B v n f) (l1 : n ≤ 1048576) (hf : ∀ i, i < n → (f i).size ≤ 1048576) (hz : s.size ≤ 1048576) :
    Calls Tryd.prog 103 #[v, .string s] w fun e w' => e = .returned (.bool (domR n f s)) ∧ Below w.heap.size w w' := by
  have KS : Hid (Calls Tryd.prog 14 #[v, .string s] w fun e w' => e = .returned (.agg #[.string (sufOf n f s).1, .string (sufOf n f s).2]) ∧ Below w.heap.size w w') := suffixOf_any v n B f s w hG hs l1 hf hz
  have HD : Hid (domR n f s = (!s.toList.isEmpty && ((sufOf n f s).2.toList == s.toList))) := domR_suf n f s
  have hfd : ∀ (a b : ByteArray) (W : World), Sem.run Tryd.prog (Instr.field 27 (.agg #[.string a, .string b]) 1) W = .ok (.string b) W := field_dom
  clear hf hs hG
  generalize domR n f s = d at *
  generalize (sufOf n f s).1 = sA at *
  generalize (sufOf n f s).2 = sB at *
  cases he : s.toList.isEmpty with
  | true =>
    have HZ : Hid (d = false) := by show _ = _; rw [HD.out, he]; rfl
    go_enter Tryd.func103, Tryd.ntmps103
    go_wp2
    go_ret
    exact ⟨ret_b (by rw [HZ.out]), Below.refl _ _⟩
  | false =>
    have HZ : Hid (d = (sB.toList == s.toList)) := by show _ = _; rw [HD.out, he]; rfl
    clear HD
    go_enter Tryd.func103, Tryd.ntmps103
    go_wp2_with fail
    refine KS.out.mono ?_
    rintro e w1 ⟨rfl, hb1⟩
    go_wp2
    go_ret
    exact ⟨ret_b (by rw [HZ.out]), hb1⟩
end Go.Proofs.YtfoekelhcmlagaaDoor

/- The walk of the program's domainsRight. -/
namespace Go.Proofs.YtfoekelhcmlagaaDoor
open Go.RowKit

/-- the member at a place is right, and greater than the one ahead of it -/
def okN (n : Nat) (f : Nat → ByteArray) (x : SetL) (i : Nat) : Bool :=
  domR n f (atL x.2 i) && (i == 0 || Op.bytesLess (atL x.2 (i - 1)).toList (atL x.2 i).toList)
/-- right by itself, but that the primary is no member -/
def domsB (n : Nat) (f : Nat → ByteArray) (x : SetL) : Bool :=
  domR n f x.1 && decide (1 ≤ x.2.length) && decide (x.2.length ≤ 4) && decide (∀ i, i < x.2.length → okN n f x i = true)
theorem domsB_at {n : Nat} {f : Nat → ByteArray} {x : SetL} (k : Nat) (h : k < x.2.length) (hk : okN n f x k = false) : domsB n f x = false := by
  unfold domsB
  rw [decide_eq_false (p := ∀ i, i < x.2.length → okN n f x i = true) (fun h' => by rw [h' k h] at hk; cases hk), Bool.and_false]
theorem domsB_all {n : Nat} {f : Nat → ByteArray} {x : SetL} (h0 : domR n f x.1 = true) (h1 : 1 ≤ x.2.length) (h2 : x.2.length ≤ 4) (h : ∀ i, i < x.2.length → okN n f x i = true) : domsB n f x = true := by
  unfold domsB
  rw [decide_eq_true h, decide_eq_true h1, decide_eq_true h2, h0]; rfl
theorem domsB_parts {n : Nat} {f : Nat → ByteArray} {x : SetL} (h : domsB n f x = true) : domR n f x.1 = true ∧ 1 ≤ x.2.length ∧ x.2.length ≤ 4 ∧ ∀ i, i < x.2.length → okN n f x i = true := by
  unfold domsB at h
  rw [Bool.and_eq_true, Bool.and_eq_true, Bool.and_eq_true, decide_eq_true_eq, decide_eq_true_eq, decide_eq_true_eq] at h
  exact ⟨h.1.1.1, h.1.1.2, h.1.2, h.2⟩
theorem domsB_no {n : Nat} {f : Nat → ByteArray} {x : SetL} (h : ¬ (domR n f x.1 = true ∧ 1 ≤ x.2.length ∧ x.2.length ≤ 4)) : domsB n f x = false := by
  cases e : domsB n f x with
  | false => rfl
  | true => exact absurd (let h := domsB_parts e; ⟨h.1, h.2.1, h.2.2.1⟩) h
theorem okN_succ {n : Nat} {f : Nat → ByteArray} {x : SetL} {k : Nat} (h : ∀ i, i < k → okN n f x i = true) (hk : okN n f x k = true) : ∀ i, i < k + 1 → okN n f x i = true := by
  intro i hi
  by_cases e : i = k
  · subst e; exact hk
  · exact h i (by omega)

set_option maxRecDepth 10000 in
set_option maxHeartbeats 4000000 in
theorem domainsRight_any (v : Value) (n B : Nat) (f : Nat → ByteArray) (x : SetL) (u : Value) (B' : Nat) (w : World) (hG : MaxI w) (hr : SliceS w B v n f) (l1 : n ≤ 1048576) (hf : ∀ i, i < n → (f i).size ≤ 1048576) (hs : SliceS w B' u x.2.length (atL x.2)) (hn : x.2.length ≤ 1048576) (hz : x.1.size ≤ 1048576) (hy : ∀ i, i < x.2.length → (atL x.2 i).size ≤ 1048576) :
    Calls Tryd.prog 182 #[v, .agg #[.string x.1, u]] w fun e w' => e = .returned (.bool (domsB n f x)) ∧ Below w.heap.size w w' := by
  have B0 : Hid (Below w.heap.size w (w.alloc (.cells #[.string x.1, u] 47))) := (Below.refl _ _).alloc (Nat.le_refl _) _
  have KX : Hid (∀ t, t.size ≤ 1048576 → ∀ W, Below w.heap.size w W → Calls Tryd.prog 103 #[v, .string t] W fun e w' => e = .returned (.bool (domR n f t)) ∧ Below W.heap.size W w') := fun t ht W hb => domainRight_any v n B f t W (hG.on hb) (hr.below hb) l1 hf ht
  have HA : Hid ((∀ k, k < x.2.length → okN n f x k = false → domsB n f x = false) ∧ (domR n f x.1 = true → 1 ≤ x.2.length → x.2.length ≤ 4 → (∀ i, i < x.2.length → okN n f x i = true) → domsB n f x = true) ∧ (¬ (domR n f x.1 = true ∧ 1 ≤ x.2.length ∧ x.2.length ≤ 4) → domsB n f x = false)) := ⟨fun k a b => domsB_at k a b, domsB_all, domsB_no⟩
  have hge : ∀ (t : TypeId) (a b : ByteArray), binOp .geq t (.string a) (.string b) = pure (.bool (!(Op.bytesLess a.toList b.toList))) := geq_text
  obtain ⟨p, M⟩ := x
  dsimp only at hs hn hz hy B0 HA ⊢
  have HZ : Hid (∀ i, i < M.length → (atL M i).size ≤ 1048576) := hy
  have HM : Hid (∀ k, okN n f (p, M) k = (domR n f (atL M k) && (k == 0 || Op.bytesLess (atL M (k - 1)).toList (atL M k).toList))) := fun k => rfl
  generalize domsB n f (p, M) = R at *
  have HS : Hid (SliceS w B' u M.length (atL M)) := hs
  clear hs hr hf hG hy
  obtain ⟨q, cap, rfl, -⟩ := HS.out
  have K1 : Hid (Calls Tryd.prog 103 #[v, .string p] (w.alloc (.cells #[.string p, .slice q M.length cap] 47)) fun e w' => e = .returned (.bool (domR n f p)) ∧ Below (w.alloc (.cells #[.string p, .slice q M.length cap] 47)).heap.size (w.alloc (.cells #[.string p, .slice q M.length cap] 47)) w') := KX.out p hz _ B0.out
  cases hdp : domR n f p with
  | false =>
    have HQ : Hid (R = false) := HA.out.2.2 (by rw [hdp]; rintro ⟨a, _⟩; cases a)
    rw [hdp] at K1
    go_enter Tryd.func182, Tryd.ntmps182
    go_wp2_with fail
    refine K1.out.mono ?_
    rintro e w1 ⟨rfl, hb1⟩
    go_wp2
    go_ret
    exact ⟨ret_b HQ.out.symm, B0.out.trans (hb1.mono B0.out.size)⟩
  | true =>
  rw [hdp] at K1
  by_cases hM0 : M.length < 1
  · have HQ : Hid (R = false) := HA.out.2.2 (fun a => by omega)
    have hM : M = [] := List.length_eq_zero_iff.1 (by omega)
    subst hM
    go_enter Tryd.func182, Tryd.ntmps182
    go_wp2_with fail
    refine K1.out.mono ?_
    rintro e w1 ⟨rfl, hb1⟩
    have b1 : w1.cell? ⟨w.heap.size, 1, none⟩ = some (.slice q ([] : List ByteArray).length cap) := by rw [(bcell hb1).1 _ _ (by simp)]; simp
    have B1 : Hid (Below w.heap.size w w1) := B0.out.trans (hb1.mono B0.out.size)
    clear hb1
    go_wp2
    go_ret
    exact ⟨ret_b HQ.out.symm, B1.out⟩
  have q0 : ((M.length : Int) == 0) = false := by rw [beq_eq_false_iff_ne]; omega
  have q0' : decide ((M.length : Int) = 0) = false := by rw [decide_eq_false_iff_not]; omega
  have q00 : ¬ M = [] := fun e => by rw [e] at hM0; exact hM0 (by decide)
  by_cases hM4 : 4 < M.length
  · have HQ : Hid (R = false) := HA.out.2.2 (fun a => by omega)
    have q1 : decide ((4 : Int) < (M.length : Int)) = true := by rw [decide_eq_true_iff]; omega
    go_enter Tryd.func182, Tryd.ntmps182
    go_wp2_with fail
    refine K1.out.mono ?_
    rintro e w1 ⟨rfl, hb1⟩
    have b1 : w1.cell? ⟨w.heap.size, 1, none⟩ = some (.slice q M.length cap) := by rw [(bcell hb1).1 _ _ (by simp)]; simp
    have B1 : Hid (Below w.heap.size w w1) := B0.out.trans (hb1.mono B0.out.size)
    clear hb1
    go_wp2
    go_ret
    exact ⟨ret_b HQ.out.symm, B1.out⟩
  have q1 : decide ((4 : Int) < (M.length : Int)) = false := by rw [decide_eq_false_iff_not]; omega
  have HN : Hid (∀ k, k < M.length → okN n f (p, M) k = false → R = false) := HA.out.1
  have HY : Hid ((∀ i, i < M.length → okN n f (p, M) i = true) → R = true) := HA.out.2.1 hdp (by omega) (by omega)
  obtain ⟨q', cap', e', hg⟩ := HS.out
  obtain ⟨g, rfl, -, hgw, hc⟩ := hg (by omega)
  obtain rfl : q = some ⟨g, 0, none⟩ := by injection e'
  have HC : Hid (∀ j, j < M.length → w.cell? ⟨g, j, none⟩ = some (.string (atL M j))) := fun j hj => (hc j hj).1
  clear HA hg hc e' hdp
  go_enter Tryd.func182, Tryd.ntmps182
  go_wp2_with fail
  refine K1.out.mono ?_
  rintro e w1 ⟨rfl, hb1⟩
  have e1 : w1.cell? ⟨w.heap.size, 1, none⟩ = some (.slice (some ⟨g, 0, none⟩) M.length cap) := by rw [(bcell hb1).1 _ _ (by simp)]; simp
  have B1 : Hid (Below w.heap.size w w1) := B0.out.trans (hb1.mono B0.out.size)
  have hbw : w.heap.size < w1.heap.size := by have := hb1.size; simp at this; omega
  clear hb1 K1 B0
  go_wp2
  go_loopw [27] (fun i wr => ∃ k : Nat, k ≤ M.length ∧ i = .int .i64 k ∧ Hid (Below w1.heap.size w1 wr) ∧ Hid (∀ j, j < k → okN n f (p, M) j = true)) (fun i _ => M.length - (intOf i).toNat)
  case atStart => exact ⟨0, Nat.zero_le _, rfl, Below.refl _ _, fun j hj => absurd hj (by omega)⟩
  case round =>
    obtain ⟨k, hk, rfl, HB, HR⟩ := hrel
    have b1 : wr.cell? ⟨w.heap.size, 1, none⟩ = some (.slice (some ⟨g, 0, none⟩) M.length cap) := by rw [(bcell HB.out).1 _ _ hbw]; exact e1
    have hbr : w.heap.size < wr.heap.size := Nat.lt_of_lt_of_le hbw HB.out.size
    by_cases hlt : k < M.length
    · have hgw1 : g < w1.heap.size := Nat.lt_of_lt_of_le hgw B1.out.size
      have hgr : g < wr.heap.size := Nat.lt_of_lt_of_le hgw1 HB.out.size
      have HCr : Hid (∀ j, j < M.length → wr.cell? ⟨g, j, none⟩ = some (.string (atL M j))) := fun j hj => by rw [(bcell HB.out).1 _ _ hgw1, (bcell B1.out).1 _ _ hgw]; exact HC.out j hj
      have hck : wr.cell? ⟨g, k, none⟩ = some (.string (atL M k)) := HCr.out k hlt
      have KD0 : Calls Tryd.prog 103 #[v, .string (atL M k)] wr fun e w' => e = .returned (.bool (domR n f (atL M k))) ∧ Below wr.heap.size wr w' := KX.out (atL M k) (HZ.out k hlt) wr (B1.out.trans (HB.out.mono B1.out.size))
      have k0 : (0 : Int) ≤ k := by omega
      have k1 : (k : Int) < M.length := by omega
      have HMk := HM.out k
      cases hd : domR n f (atL M k) with
      | false =>
        have HQ : Hid (R = false) := HN.out k hlt (by rw [HMk, hd]; rfl)
        rw [hd] at KD0
        have KD : Hid (Calls Tryd.prog 103 #[v, .string (atL M k)] wr fun e w' => e = .returned (.bool false) ∧ Below wr.heap.size wr w') := KD0
        clear KD0 hd HMk
        generalize atL M k = t at *
        go_wp2_with fail
        refine KD.out.mono ?_
        rintro e w2 ⟨rfl, hb2⟩
        have B2 : Hid (Below w.heap.size w w2) := (B1.out.trans (HB.out.mono B1.out.size)).trans (hb2.mono (Nat.le_of_lt hbr))
        clear hb2
        go_wp2
        go_ret
        exact ⟨ret_b HQ.out.symm, B2.out⟩
      | true =>
        rw [hd] at KD0 HMk
        have KD : Hid (Calls Tryd.prog 103 #[v, .string (atL M k)] wr fun e w' => e = .returned (.bool true) ∧ Below wr.heap.size wr w') := KD0
        clear KD0 hd
        cases k with
        | zero =>
          have HK : Hid (okN n f (p, M) 0 = true) := by show _ = _; rw [HMk]; rfl
          clear HMk
          generalize atL M 0 = t at *
          have q2 : decide ((0 : Int) < ((0 : Nat) : Int)) = false := by decide
          go_wp2_with fail
          refine KD.out.mono ?_
          rintro e w2 ⟨rfl, hb2⟩
          have B2 : Hid (Below w1.heap.size w1 w2) := HB.out.trans (hb2.mono HB.out.size)
          clear hb2
          go_wp2
          go_roundw
          case rel => exact ⟨1, by omega, by go_num, B2, okN_succ (k := 0) (fun i hi => absurd hi (by omega)) HK.out⟩
          case measure => simp [intOf]; omega
        | succ m =>
          have hcm : wr.cell? ⟨g, m, none⟩ = some (.string (atL M m)) := HCr.out m (by omega)
          have HE : Hid (okN n f (p, M) (m + 1) = Op.bytesLess (atL M m).toList (atL M (m + 1)).toList) := by show _ = _; rw [HMk]; rfl
          clear HMk
          have q2 : decide ((0 : Int) < ((m : Int) + 1)) = true := by rw [decide_eq_true_iff]; omega
          have p0 : (0 : Int) ≤ (m : Int) + 1 := by omega
          have p1 : (m : Int) + 1 < M.length := by omega
          have m0 : (0 : Int) ≤ m := by omega
          have m1 : (m : Int) < M.length := by omega
          cases hless : Op.bytesLess (atL M m).toList (atL M (m + 1)).toList with
          | true =>
            have HK : Hid (okN n f (p, M) (m + 1) = true) := by show _ = _; rw [HE.out, hless]
            clear HE
            generalize atL M (m + 1) = t at *
            generalize atL M m = s at *
            go_wp2_with fail
            refine KD.out.mono ?_
            rintro e w2 ⟨rfl, hb2⟩
            have x1 : w2.cell? ⟨w.heap.size, 1, none⟩ = some (.slice (some ⟨g, 0, none⟩) M.length cap) := ((bcell hb2).1 _ _ hbr).trans b1
            have x2 : w2.cell? ⟨g, m, none⟩ = some (.string s) := ((bcell hb2).1 _ _ hgr).trans hcm
            have B2 : Hid (Below w1.heap.size w1 w2) := HB.out.trans (hb2.mono HB.out.size)
            clear hb2
            go_wp2
            go_roundw
            case rel => exact ⟨m + 2, by omega, by go_num, B2, okN_succ HR.out HK.out⟩
            case measure => simp [intOf]; omega
          | false =>
            have HQ : Hid (R = false) := HN.out (m + 1) hlt (by rw [HE.out, hless])
            clear HE
            generalize atL M (m + 1) = t at *
            generalize atL M m = s at *
            go_wp2_with fail
            refine KD.out.mono ?_
            rintro e w2 ⟨rfl, hb2⟩
            have x1 : w2.cell? ⟨w.heap.size, 1, none⟩ = some (.slice (some ⟨g, 0, none⟩) M.length cap) := ((bcell hb2).1 _ _ hbr).trans b1
            have x2 : w2.cell? ⟨g, m, none⟩ = some (.string s) := ((bcell hb2).1 _ _ hgr).trans hcm
            have B2 : Hid (Below w.heap.size w w2) := (B1.out.trans (HB.out.mono B1.out.size)).trans (hb2.mono (Nat.le_of_lt hbr))
            clear hb2
            go_wp2
            go_ret
            exact ⟨ret_b HQ.out.symm, B2.out⟩
    · have HQ : Hid (R = true) := HY.out (fun i hi => HR.out i (by omega))
      go_wp2
      go_ret
      exact ⟨ret_b HQ.out.symm, B1.out.trans (HB.out.mono B1.out.size)⟩
end Go.Proofs.YtfoekelhcmlagaaDoor
