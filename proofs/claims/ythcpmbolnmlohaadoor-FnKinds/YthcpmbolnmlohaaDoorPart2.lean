/- 12 of this claim's texts, one behind the other. -/
import Derived.Test.YthcpmbolnmlohaaDoorPart1
import Derived.Lib.ItoaMem
import Derived.Test.YthcpmbolnmlohaaDoorShelf
import Derived.Lib.AppendIntMem
import Derived.Shelf.Strconv.Itoa4
import Derived.Laws.ResultCell
import Derived.Shelf.Strings.OnBuilder
import Derived.ProofKit
import Derived.OpenShut
import Derived.Handed
import Derived.Lay
import Derived.MakeChecks
import Derived.Lib.LaidTab
import Derived.Stop.LaidErr
import Derived.Laws.IdiomArrays
import Derived.LaidLaws
import Derived.WalkSmall
import Derived.Carry
import Derived.ChangeVars
/- The library's digits of a number are decB's. -/
namespace Go.Proofs.YthcpmbolnmlohaaDoor
theorem decA_lib (m : Nat) (h : 0 < m) : Lib.decDigits m = decA m := by
  induction m using Nat.strongRecOn with
  | _ m ih =>
    rw [Lib.decDigits, decA_pos h]
    split
    · rename_i h10
      rw [show m / 10 = 0 by omega, decA_zero, Nat.mod_eq_of_lt h10]; rfl
    · rw [ih (m / 10) (by omega) (by omega)]
theorem dec_lib (n : Nat) : (⟨(Lib.itoa (n : Int)).toArray⟩ : ByteArray) = decB (n : Int) := by
  rw [Lib.itoa_nonneg]
  unfold decB
  by_cases h : n = 0
  · subst h
    rw [if_pos (by omega), Lib.decDigits_one (by decide)]; rfl
  · rw [if_neg (by omega), if_neg (by omega), decA_lib n (by omega)]; rfl
end Go.Proofs.YthcpmbolnmlohaaDoor

/- The library's Split and the digits of a number, as the program calls them, over the contracts laid at this translation. -/
namespace Go.Proofs.YthcpmbolnmlohaaDoor
open Go.RowKit

/-- the library's variable MaxLen holds some number -/
def MaxI (w : World) : Prop := ∃ m : Int, w.cell? ⟨2, 0, none⟩ = some (.int .i64 m)
theorem MaxI.on {w w' : World} (h : MaxI w) (hb : Below w.heap.size w w') : MaxI w' := by
  obtain ⟨m, hm⟩ := h
  have hlt : 2 < w.heap.size := by
    by_cases h : 2 < w.heap.size
    · exact h
    · exfalso
      simp [World.cell?, Array.getElem?_eq_none (show w.heap.size ≤ 2 by omega)] at hm
  exact ⟨m, by rw [(bcell hb).1 _ _ hlt]; exact hm⟩

theorem split_call (s : ByteArray) (w : World) (hG : MaxI w) (hs : s.size < 4294967281) :
    Calls Tryd.prog 36 #[.string s, .string ⟨#[46]⟩] w fun e w' => e = .returned (.slice (some ⟨w.heap.size, 0, none⟩) (splitB s 46).length (splitB s 46).length) ∧ w' = w.alloc (.cells (strCells (splitB s 46)).toArray 9) := by
  obtain ⟨m, hm⟩ := hG
  have h := Any.strings_Split { Tryd.lays146 with } Tryd.lays146.i9 s ⟨#[46]⟩ m w hs hm (Nat.le_refl 1)
  rw [lib_split s 46, lib_count s 46] at h
  exact h
/-- all cuts and the bytes between them -/
theorem cutL_sum (c : UInt8) : ∀ l : List UInt8, ((cutL c l).map (fun p => p.length + 1)).sum = l.length + 1
  | [] => rfl
  | b :: l => by
    have ih := cutL_sum c l
    rw [cutL]
    split
    · simp only [List.map_cons, List.sum_cons, List.length_nil, List.length_cons, ih]; omega
    · split
      · rename_i h; rw [h] at ih; simp at ih
      · rename_i h
        rw [h] at ih
        simp only [List.map_cons, List.sum_cons, List.length_cons] at ih ⊢
        omega
theorem sum_le (L : List ByteArray) (h : ∀ x ∈ L, x.size ≤ 12) : (L.map (fun p => p.data.toList.length + 1)).sum ≤ 13 * L.length := by
  induction L with
  | nil => exact Nat.le_refl _
  | cons a L ih =>
    have h1 := h a (by simp)
    have h2 := ih (fun x hx => h x (by simp [hx]))
    have e : a.data.toList.length = a.size := (Lib.size_eq a).symm
    simp only [List.map_cons, List.sum_cons, List.length_cons, e]
    omega
theorem labelB_le {t : ByteArray} (h : labelB t = true) : t.size ≤ 12 := by
  by_cases hz : 12 < t.size
  · rw [labelB_size (.inr hz)] at h; cases h
  · omega
theorem host_size {s : ByteArray} (hn : (splitB s 46).length ≤ 6) (h : ∀ k (h : k < (splitB s 46).length), labelB ((splitB s 46)[k]) = true) : s.size ≤ 100 := by
  have e := splitB_cut s 46
  have e2 := cutL_sum 46 s.data.toList
  rw [← e, List.map_map] at e2
  have e3 := sum_le (splitB s 46) (fun x hx => by
    obtain ⟨k, hk, rfl⟩ := List.getElem_of_mem hx
    exact labelB_le (h k hk))
  have e4 : s.data.toList.length = s.size := (Lib.size_eq s).symm
  have e5 : ((splitB s 46).map (fun p => p.data.toList.length + 1)).sum = s.size + 1 := by rw [← e4]; exact e2
  omega
theorem hostB_six {s : ByteArray} (hn : (splitB s 46).length ≤ 6) (h : ∀ k (h : k < (splitB s 46).length), labelB ((splitB s 46)[k]) = true) : hostB s = true := by
  rw [hostB_all (host_size hn h) h]; simpa using hn
theorem hostB_many {s : ByteArray} (hn : 6 < (splitB s 46).length) : hostB s = false := by
  unfold hostB; rw [decide_eq_false (show ¬ (splitB s 46).length ≤ 6 by omega)]; simp
end Go.Proofs.YthcpmbolnmlohaaDoor

/- The walks of the program's kindsOf and ClearRead. -/
namespace Go.Proofs.YthcpmbolnmlohaaDoor
open Go.RowKit

/-- the program's three words -/
def KindI (w : World) : Prop := w.cell? ⟨0, 0, none⟩ = some (.string ⟨#[34, 99, 97, 99, 104, 101, 34]⟩) ∧ w.cell? ⟨0, 1, none⟩ = some (.string ⟨#[34, 99, 111, 111, 107, 105, 101, 115, 34]⟩) ∧ w.cell? ⟨0, 2, none⟩ = some (.string ⟨#[34, 115, 116, 111, 114, 97, 103, 101, 34]⟩)
theorem KindI.on {w w' : World} (h : KindI w) (hb : Below w.heap.size w w') : KindI w' := by
  obtain ⟨h0, h1, h2⟩ := h
  have hlt : 0 < w.heap.size := World.block_lt_of_cell? w ⟨0, 0, none⟩ h0
  exact ⟨by rw [(bcell hb).1 _ _ hlt]; exact h0, by rw [(bcell hb).1 _ _ hlt]; exact h1, by rw [(bcell hb).1 _ _ hlt]; exact h2⟩
/-- the kind that a word stands for -/
def kindO (u : ByteArray) : Int := if (u.toList == qStar) = true then 7 else if (u.toList == qCache) = true then 1 else if (u.toList == qCookies) = true then 2 else if (u.toList == qStorage) = true then 4 else 0

set_option maxRecDepth 100000 in
theorem kind_index0 (a b c : ByteArray) (W : World) : Sem.run Tryd.prog (Instr.index 53 (.agg #[.string a, .string b, .string c]) (.int .i64 0)) W = .ok (.string a) W := by kernel_rfl
set_option maxRecDepth 100000 in
theorem kind_index1 (a b c : ByteArray) (W : World) : Sem.run Tryd.prog (Instr.index 53 (.agg #[.string a, .string b, .string c]) (.int .i64 1)) W = .ok (.string b) W := by kernel_rfl
set_option maxRecDepth 100000 in
theorem kind_index2 (a b c : ByteArray) (W : World) : Sem.run Tryd.prog (Instr.index 53 (.agg #[.string a, .string b, .string c]) (.int .i64 2)) W = .ok (.string c) W := by kernel_rfl
set_option maxRecDepth 10000 in
set_option maxHeartbeats 4000000 in
theorem kindsOf_any (u : ByteArray) (w : World) (hK : KindI w) :
    Calls Tryd.prog 37 #[.string u] w fun e w' => e = .returned (.int .i64 (kindO u)) ∧ w' = w := by
  have HO : Hid (kindO u = if (u.toList == qStar) = true then 7 else if (u.toList == qCache) = true then 1 else if (u.toList == qCookies) = true then 2 else if (u.toList == qStorage) = true then 4 else 0) := rfl
  obtain ⟨k0, k1, k2⟩ := hK
  have x0 : ∀ (a b c : ByteArray) (W : World), Sem.run Tryd.prog (Instr.index 53 (.agg #[.string a, .string b, .string c]) (.int .i64 0)) W = .ok (.string a) W := kind_index0
  have x1 : ∀ (a b c : ByteArray) (W : World), Sem.run Tryd.prog (Instr.index 53 (.agg #[.string a, .string b, .string c]) (.int .i64 1)) W = .ok (.string b) W := kind_index1
  have x2 : ∀ (a b c : ByteArray) (W : World), Sem.run Tryd.prog (Instr.index 53 (.agg #[.string a, .string b, .string c]) (.int .i64 2)) W = .ok (.string c) W := kind_index2
  generalize kindO u = R at *
  rcases word_of u.toList with ⟨e1, e2, e3, e4⟩ | ⟨e1, e2, e3, e4⟩ | ⟨e1, e2, e3, e4⟩ | ⟨e1, e2, e3, e4⟩ | ⟨e1, e2, e3, e4⟩
  all_goals
    rw [e1, e2, e3, e4] at HO
    unfold qCache at e1
    unfold qCookies at e2
    unfold qStorage at e3
    unfold qStar at e4
  case inr.inr.inr.inl =>
    go_enter Tryd.func37, Tryd.ntmps37
    go_wp2
    go_ret
    exact ⟨ret_int (by rw [HO.out]; rfl), rfl⟩
  case inl =>
    go_enter Tryd.func37, Tryd.ntmps37
    go_wp2
    go_loop [8] (fun i => ∃ k : Nat, k ≤ 0 ∧ i = .int .i64 k) (fun i => 3 - (intOf i).toNat)
    case atStart => exact ⟨0, Nat.zero_le _, rfl⟩
    case round =>
      obtain ⟨k, hk, rfl⟩ := hrel
      rcases (show k = 0 by omega) with rfl
      · go_wp2
        go_ret
        exact ⟨ret_int (by rw [HO.out]; rfl), rfl⟩
  case inr.inl =>
    go_enter Tryd.func37, Tryd.ntmps37
    go_wp2
    go_loop [8] (fun i => ∃ k : Nat, k ≤ 1 ∧ i = .int .i64 k) (fun i => 3 - (intOf i).toNat)
    case atStart => exact ⟨0, Nat.zero_le _, rfl⟩
    case round =>
      obtain ⟨k, hk, rfl⟩ := hrel
      rcases (show k = 0 ∨ k = 1 by omega) with rfl | rfl
      · go_wp2
        go_round
        case rel => exact ⟨1, by omega, by first | rfl | go_num⟩
        case measure => first | decide | simp [intOf]
      · go_wp2
        go_ret
        exact ⟨ret_int (by rw [HO.out]; rfl), rfl⟩
  case inr.inr.inl =>
    go_enter Tryd.func37, Tryd.ntmps37
    go_wp2
    go_loop [8] (fun i => ∃ k : Nat, k ≤ 2 ∧ i = .int .i64 k) (fun i => 3 - (intOf i).toNat)
    case atStart => exact ⟨0, Nat.zero_le _, rfl⟩
    case round =>
      obtain ⟨k, hk, rfl⟩ := hrel
      rcases (show k = 0 ∨ k = 1 ∨ k = 2 by omega) with rfl | rfl | rfl
      · go_wp2
        go_round
        case rel => exact ⟨1, by omega, by first | rfl | go_num⟩
        case measure => first | decide | simp [intOf]
      · go_wp2
        go_round
        case rel => exact ⟨2, by omega, by first | rfl | go_num⟩
        case measure => first | decide | simp [intOf]
      · go_wp2
        go_ret
        exact ⟨ret_int (by rw [HO.out]; rfl), rfl⟩
  case inr.inr.inr.inr =>
    go_enter Tryd.func37, Tryd.ntmps37
    go_wp2
    go_loop [8] (fun i => ∃ k : Nat, k ≤ 3 ∧ i = .int .i64 k) (fun i => 3 - (intOf i).toNat)
    case atStart => exact ⟨0, Nat.zero_le _, rfl⟩
    case round =>
      obtain ⟨k, hk, rfl⟩ := hrel
      rcases (show k = 0 ∨ k = 1 ∨ k = 2 ∨ k = 3 by omega) with rfl | rfl | rfl | rfl
      · go_wp2
        go_round
        case rel => exact ⟨1, by omega, by first | rfl | go_num⟩
        case measure => first | decide | simp [intOf]
      · go_wp2
        go_round
        case rel => exact ⟨2, by omega, by first | rfl | go_num⟩
        case measure => first | decide | simp [intOf]
      · go_wp2
        go_round
        case rel => exact ⟨3, by omega, by first | rfl | go_num⟩
        case measure => first | decide | simp [intOf]
      · go_wp2
        go_ret
        exact ⟨ret_int (by rw [HO.out]; rfl), rfl⟩

/-- the kinds of the first k words -/
def kSum (L : List ByteArray) (k : Nat) : Int := (if clTo qCache L k = true then 1 else 0) + (if clTo qCookies L k = true then 2 else 0) + (if clTo qStorage L k = true then 4 else 0)
theorem split_comma (s : ByteArray) (w : World) (hG : MaxI w) (hs : s.size < 4294967281) :
    Calls Tryd.prog 36 #[.string s, .string ⟨#[44]⟩] w fun e w' => e = .returned (.slice (some ⟨w.heap.size, 0, none⟩) (splitB s 44).length (splitB s 44).length) ∧ w' = w.alloc (.cells (strCells (splitB s 44)).toArray 9) := by
  obtain ⟨m, hm⟩ := hG
  have h := Any.strings_Split { Tryd.lays146 with } Tryd.lays146.i9 s ⟨#[44]⟩ m w hs hm (Nat.le_refl 1)
  rw [lib_split s 44, lib_count s 44] at h
  exact h
theorem trim_call (s : ByteArray) (w : World) (hs : s.size ≤ 9223372036854775807) :
    Calls Tryd.prog 38 #[.string s, .string ⟨#[32]⟩] w fun e w' => e = .returned (.string (trimB s)) ∧ Below w.heap.size w w' := by
  have h := Any.strings_Trim_one Tryd.lays160 s 32 (by decide) w hs
  rw [trim_lib] at h
  refine h.mono ?_
  rintro e w' ⟨rfl, rfl | rfl⟩
  · exact ⟨rfl, Below.refl _ _⟩
  · exact ⟨rfl, (Below.refl _ _).drew⟩
set_option maxRecDepth 10000 in
set_option maxHeartbeats 8000000 in
theorem clearRead_any (t : ByteArray) (w : World) (hG : MaxI w) (hK : KindI w) :
    Calls Tryd.prog 13 #[.string t] w fun e w' => e = .returned (.int .i64 (clearI t)) ∧ Below w.heap.size w w' := by
  by_cases h8 : 8000 < t.size
  · have HR : Hid (clearI t = 0) := by show _ = _; unfold clearI; rw [if_pos h8]
    go_enter Tryd.func13, Tryd.ntmps13
    go_wp2
    go_ret
    exact ⟨ret_int HR.out.symm, Below.refl _ _⟩
  have q8 : decide ((8000 : Int) < (t.size : Int)) = false := by rw [decide_eq_false_iff_not]; omega
  have HE : Hid (clearI t = kSum (splitB t 44) (splitB t 44).length) := by show _ = _; unfold clearI; rw [if_neg h8]; rfl
  have HC : Hid (Calls Tryd.prog 36 #[.string t, .string ⟨#[44]⟩] w fun e w' => e = .returned (.slice (some ⟨w.heap.size, 0, none⟩) (splitB t 44).length (splitB t 44).length) ∧ w' = w.alloc (.cells (strCells (splitB t 44)).toArray 9)) := split_comma t w hG (by omega)
  have HZ : Hid (∀ i, i < (splitB t 44).length → (atL (splitB t 44) i).size ≤ 1048576) := fun i hi => by
    have e : atL (splitB t 44) i = (splitB t 44)[i] := by simp [atL, hi]
    rw [e]
    have := splitB_small t 44 _ (List.getElem_mem hi)
    omega
  have HCE : Hid (∀ j, j < (splitB t 44).length → (w.alloc (.cells (strCells (splitB t 44)).toArray 9)).cell? ⟨w.heap.size, j, none⟩ = some (.string (atL (splitB t 44) j))) := fun j hj => by
    have e : atL (splitB t 44) j = (splitB t 44)[j] := by simp [atL, hj]
    rw [e]; simp [strCells, hj]
  have hlen := splitB_len t 44
  have HK : Hid (KindI w) := hK
  clear hG hK
  generalize clearI t = RR at *
  generalize splitB t 44 = L at *
  go_enter Tryd.func13, Tryd.ntmps13
  go_wp2_with fail
  refine HC.out.mono ?_
  rintro e w1 ⟨rfl, rfl⟩
  have B1 : Hid (Below w.heap.size w (w.alloc (.cells (strCells L).toArray 9))) := (Below.refl _ _).alloc (Nat.le_refl _) _
  have hz1 : w.heap.size < (w.alloc (.cells (strCells L).toArray 9)).heap.size := by simp
  generalize w.alloc (.cells (strCells L).toArray 9) = w1 at *
  clear HC
  go_wp2
  go_loopw [3, 12] (fun v i wr => ∃ k : Nat, k ≤ L.length ∧ i = .int .i64 k ∧ v = .int .i64 (kSum L k) ∧ Hid (Below w1.heap.size w1 wr)) (fun _ i _ => L.length - (intOf i).toNat)
  case atStart => exact ⟨0, Nat.zero_le _, rfl, rfl, Below.refl _ _⟩
  case round =>
    obtain ⟨k, hk, rfl, rfl, HB⟩ := hrel
    by_cases hlt : k < L.length
    · have hck : wr.cell? ⟨w.heap.size, k, none⟩ = some (.string (atL L k)) := by rw [(bcell HB.out).1 _ _ hz1]; exact HCE.out k hlt
      have k0 : (0 : Int) ≤ k := by omega
      have k1 : (k : Int) < L.length := by omega
      have KT : Hid (∀ W, Calls Tryd.prog 38 #[.string (atL L k), .string ⟨#[32]⟩] W fun e w' => e = .returned (.string (trimB (atL L k))) ∧ Below W.heap.size W w') := fun W => trim_call _ W (by have := HZ.out k hlt; omega)
      have KO : Hid (∀ W, Below w.heap.size w W → Calls Tryd.prog 37 #[.string (trimB (atL L k))] W fun e w' => e = .returned (.int .i64 (kindO (trimB (atL L k)))) ∧ w' = W) := fun W hb => kindsOf_any _ W (HK.out.on hb)
      have B2 : Hid (Below w.heap.size w wr) := B1.out.trans (HB.out.mono B1.out.size)
      have NN : Hid (kSum L (k + 1) = (if (clTo qCache L k || ((trimB (atL L k)).toList == qCache) || ((trimB (atL L k)).toList == qStar)) = true then 1 else 0) + (if (clTo qCookies L k || ((trimB (atL L k)).toList == qCookies) || ((trimB (atL L k)).toList == qStar)) = true then 2 else 0) + (if (clTo qStorage L k || ((trimB (atL L k)).toList == qStorage) || ((trimB (atL L k)).toList == qStar)) = true then 4 else 0)) := rfl
      have HO : Hid (kindO (trimB (atL L k)) = if ((trimB (atL L k)).toList == qStar) = true then 7 else if ((trimB (atL L k)).toList == qCache) = true then 1 else if ((trimB (atL L k)).toList == qCookies) = true then 2 else if ((trimB (atL L k)).toList == qStorage) = true then 4 else 0) := rfl
      have N0 : Hid (kSum L k = (if clTo qCache L k = true then 1 else 0) + (if clTo qCookies L k = true then 2 else 0) + (if clTo qStorage L k = true then 4 else 0)) := rfl
      generalize kSum L k = S0 at *
      generalize kindO (trimB (atL L k)) = o at *
      generalize trimB (atL L k) = u at *
      generalize atL L k = x at *
      generalize clTo qCache L k = b1 at *
      generalize clTo qCookies L k = b2 at *
      generalize clTo qStorage L k = b3 at *
      rcases word_of u.toList with ⟨e1, e2, e3, e4⟩ | ⟨e1, e2, e3, e4⟩ | ⟨e1, e2, e3, e4⟩ | ⟨e1, e2, e3, e4⟩ | ⟨e1, e2, e3, e4⟩
      all_goals
        rw [e1, e2, e3, e4] at HO
        rw [e1, e2, e3, e4] at NN
        have ho := HO.out
        simp only [if_true, if_false, Bool.false_eq_true] at ho
        subst ho
        clear e1 e2 e3 e4 HO
        cases b1 <;> cases b2 <;> cases b3
        all_goals
          have n0 := N0.out
          simp at n0
          subst n0
          clear N0
          go_wp2_with fail
          refine (KT.out _).mono ?_
          rintro e w2 ⟨rfl, hb2⟩
          have B3 : Hid (Below w1.heap.size w1 w2) := HB.out.trans (hb2.mono HB.out.size)
          have C3 : Hid (Below w.heap.size w w2) := B2.out.trans (hb2.mono B2.out.size)
          clear hb2
          go_wp2_with (go_at_call 37; refine (KO.out _ C3.out).mono ?_; rintro e w3 ⟨rfl, rfl⟩)
          go_roundw
          case rel => exact ⟨k + 1, by omega, by go_num, by rw [NN.out]; rfl, B3⟩
          case measure => simp [intOf]; omega
    · obtain rfl : k = L.length := by omega
      go_wp2
      go_ret
      exact ⟨ret_int HE.out.symm, B1.out.trans (HB.out.mono B1.out.size)⟩
end Go.Proofs.YthcpmbolnmlohaaDoor

/- What two texts say with a comma between: plain facts. -/
namespace Go.Proofs.YthcpmbolnmlohaaDoor
open Go.RowKit

theorem cutL_two (c : UInt8) (B : List UInt8) : ∀ A : List UInt8, cutL c (A ++ c :: B) = cutL c A ++ cutL c B
  | [] => by
    have e : cutL c (c :: B) = [] :: cutL c B := by rw [cutL]; exact if_pos rfl
    rw [List.nil_append, e]; rfl
  | b :: A => by
    have ih := cutL_two c B A
    rw [List.cons_append, cutL, cutL]
    by_cases e : b = c
    · rw [if_pos e, if_pos e, ih]; rfl
    · rw [if_neg e, if_neg e, ih]
      have hne : cutL c A ≠ [] := by
        cases A with
        | nil => rw [cutL]; simp
        | cons x A =>
          rw [cutL]
          split
          · simp
          · split <;> simp
      cases hq : cutL c A with
      | nil => exact absurd hq hne
      | cons p r => rfl
theorem split_two (a b : ByteArray) : splitB (a ++ ⟨#[44]⟩ ++ b) 44 = splitB a 44 ++ splitB b 44 := by
  apply datas_inj
  rw [List.map_append]
  have e := splitB_cut (a ++ ⟨#[44]⟩ ++ b) 44
  have e1 := splitB_cut a 44
  have e2 := splitB_cut b 44
  have ed : (a ++ ⟨#[44]⟩ ++ b : ByteArray).data.toList = a.data.toList ++ 44 :: b.data.toList := by simp
  rw [ed, cutL_two] at e
  rw [show (44 : UInt8).toNat = 44 from rfl] at e e1 e2
  rw [e, e1, e2]
theorem clTo_left (q : List UInt8) (L M : List ByteArray) : ∀ k, k ≤ L.length → clTo q (L ++ M) k = clTo q L k
  | 0, _ => rfl
  | k + 1, h => by
    have e : atL (L ++ M) k = atL L k := by unfold atL; rw [List.getD_eq_getElem?_getD, List.getD_eq_getElem?_getD, List.getElem?_append_left (by omega)]
    rw [clTo, clTo, clTo_left q L M k (by omega), e]
theorem clTo_right (q : List UInt8) (L M : List ByteArray) : ∀ k, clTo q (L ++ M) (L.length + k) = (clTo q L L.length || clTo q M k)
  | 0 => by rw [Nat.add_zero, clTo_left q L M _ (Nat.le_refl _)]; simp [clTo]
  | k + 1 => by
    have e : atL (L ++ M) (L.length + k) = atL M k := by unfold atL; rw [List.getD_eq_getElem?_getD, List.getD_eq_getElem?_getD, List.getElem?_append_right (by omega), Nat.add_sub_cancel_left]
    rw [← Nat.add_assoc, clTo, clTo_right q L M k, e, clTo]
    simp [Bool.or_assoc]
theorem clear_two (a b : ByteArray) (h : a.size + b.size ≤ 7000) :
    bits BinOp.or IntKind.i64 (clearI (a ++ ⟨#[44]⟩ ++ b)) (clearI a) = clearI (a ++ ⟨#[44]⟩ ++ b) ∧ bits BinOp.or IntKind.i64 (clearI (a ++ ⟨#[44]⟩ ++ b)) (clearI b) = clearI (a ++ ⟨#[44]⟩ ++ b) ∧ bits BinOp.or IntKind.i64 (clearI a) (clearI b) = clearI (a ++ ⟨#[44]⟩ ++ b) := by
  have hz : (a ++ ⟨#[44]⟩ ++ b : ByteArray).size ≤ 7001 := by rw [ByteArray.size_append, ByteArray.size_append]; show a.size + 1 + b.size ≤ 7001; omega
  unfold clearI
  rw [if_neg (by omega), if_neg (by omega), if_neg (by omega), split_two]
  unfold clOf
  rw [List.length_append, clTo_right, clTo_right, clTo_right]
  generalize clTo qCache (splitB a 44) (splitB a 44).length = x1
  generalize clTo qCookies (splitB a 44) (splitB a 44).length = x2
  generalize clTo qStorage (splitB a 44) (splitB a 44).length = x3
  generalize clTo qCache (splitB b 44) (splitB b 44).length = y1
  generalize clTo qCookies (splitB b 44) (splitB b 44).length = y2
  generalize clTo qStorage (splitB b 44) (splitB b 44).length = y3
  cases x1 <;> cases x2 <;> cases x3 <;> cases y1 <;> cases y2 <;> cases y3 <;> exact ⟨rfl, rfl, rfl⟩
end Go.Proofs.YthcpmbolnmlohaaDoor

/- The walk of the specification's ClearText. -/
namespace Go.Proofs.YthcpmbolnmlohaaDoor
open Go.RowKit

def ctW : Nat → ByteArray
  | 0 => ⟨#[34, 99, 97, 99, 104, 101, 34]⟩
  | 1 => ⟨#[34, 99, 111, 111, 107, 105, 101, 115, 34]⟩
  | _ => ⟨#[34, 115, 116, 111, 114, 97, 103, 101, 34]⟩
def ctTo (n : Int) : Nat → ByteArray
  | 0 => ⟨#[]⟩
  | k + 1 => if n / 2 ^ k % 2 = 0 then ctTo n k else if (ctTo n k).toList.isEmpty = true then ctTo n k ++ ctW k else ctTo n k ++ ⟨#[44, 32]⟩ ++ ctW k
/-- what ClearText tells -/
def clearT (n : Int) : ByteArray := if 0 ≤ n ∧ n ≤ 7 then (if n = 7 then ⟨#[34, 42, 34]⟩ else ctTo n 3) else ⟨#[]⟩
theorem ctTo_size (n : Int) : ∀ k, (ctTo n k).size ≤ 11 * k
  | 0 => Nat.le_refl _
  | k + 1 => by
    have ih := ctTo_size n k
    have hw : (ctW k).size ≤ 9 := by unfold ctW; split <;> decide
    rw [ctTo]; split
    · omega
    · split
      · rw [ByteArray.size_append]; omega
      · rw [ByteArray.size_append, ByteArray.size_append]; show (ctTo n k).size + 2 + (ctW k).size ≤ _; omega

set_option maxRecDepth 10000 in
set_option maxHeartbeats 8000000 in
theorem specClearText_any (n : Int) (w : World) :
    Calls Tryd.prog 14 #[.int .i64 n] w fun e w' => e = .returned (.string (clearT n)) ∧ Below w.heap.size w w' := by
  have hid : ∀ {p : Prop}, p → Hid p := fun h => h
  have KI : Hid (∀ W, Calls Tryd.prog 39 #[.int .i64 n, .int .i64 0, .int .i64 7] W fun e w' => e = .returned (.bool (decide (0 ≤ n) && decide (n ≤ 7))) ∧ w' = W) := fun W => specIs_any n 0 7 W
  by_cases hr : 0 ≤ n ∧ n ≤ 7
  · rw [decide_eq_true hr.1, decide_eq_true hr.2] at KI
    by_cases h7 : n = 7
    · subst h7
      go_enter Tryd.func14, Tryd.ntmps14
      go_wp2_with (go_at_call 39; refine (KI.out _).mono ?_; rintro e w1 ⟨rfl, rfl⟩)
      go_ret
      exact ⟨rfl, Below.refl _ _⟩
    have HT0 : clearT n = ctTo n 3 := by unfold clearT; rw [if_pos hr, if_neg h7]
    have H : n = 0 ∨ n = 1 ∨ n = 2 ∨ n = 3 ∨ n = 4 ∨ n = 5 ∨ n = 6 := by omega
    have HS : Hid (∀ k, ctTo n (k + 1) = if n / 2 ^ k % 2 = 0 then ctTo n k else if (ctTo n k).toList.isEmpty = true then ctTo n k ++ ctW k else ctTo n k ++ ⟨#[44, 32]⟩ ++ ctW k) := fun _ => rfl
    have HZ : Hid (∀ k, (ctTo n k).size ≤ 11 * k) := ctTo_size n
    have H0 : Hid (ctTo n 0 = ⟨#[]⟩) := rfl
    have HT : Hid (clearT n = ctTo n 3) := HT0
    clear hr h7 HT0
    generalize clearT n = RR at *
    generalize ctTo n = F at *
    rcases H with rfl | rfl | rfl | rfl | rfl | rfl | rfl
    all_goals
      have hs0 := HS.out 0
      have hs1 := HS.out 1
      have hs2 := HS.out 2
      first | rw [if_pos (by decide)] at hs0 | rw [if_neg (by decide)] at hs0
      first | rw [if_pos (by decide)] at hs1 | rw [if_neg (by decide)] at hs1
      first | rw [if_pos (by decide)] at hs2 | rw [if_neg (by decide)] at hs2
      have HS0 := hid hs0
      have HS1 := hid hs1
      have HS2 := hid hs2
      clear hs0 hs1 hs2 HS
      go_enter Tryd.func14, Tryd.ntmps14
      go_wp2_with (go_at_call 39; refine (KI.out _).mono ?_; rintro e w1 ⟨rfl, rfl⟩)
      go_loopw [3, 4] (fun v i wr => ∃ (k : Nat) (u : ByteArray), k ≤ 3 ∧ i = .int .i64 k ∧ v = .string u ∧ u.size ≤ 11 * k ∧ Hid (F k = u) ∧ Hid (Below w1.heap.size w1 wr)) (fun _ i _ => 3 - (intOf i).toNat)
      case atStart => exact ⟨0, ⟨#[]⟩, Nat.zero_le _, rfl, rfl, Nat.zero_le _, H0, Below.refl _ _⟩
      case round =>
        obtain ⟨k, u, hk, rfl, rfl, hu, HU, HB⟩ := hrel
        have hs := HB.out.size
        have hk4 : k = 0 ∨ k = 1 ∨ k = 2 ∨ k = 3 := by omega
        cases he : u.toList.isEmpty
        all_goals
          rcases hk4 with rfl | rfl | rfl | rfl
          · go_wp2
            go_roundw
            case rel =>
              refine ⟨1, _, by decide, by first | rfl | go_num, rfl, ?_, ?_, ?_⟩
              · first | omega | (rw [ByteArray.size_append, ByteArray.size_append]; exact Nat.le_trans (Nat.add_le_add (Nat.add_le_add hu (show _ ≤ 2 by decide)) (show _ ≤ 9 by decide)) (by decide)) | (rw [ByteArray.size_append]; exact Nat.le_trans (Nat.add_le_add hu (show _ ≤ 9 by decide)) (by decide))
              · show F (0 + 1) = _
                first | (rw [HS0.out, HU.out]; done) | (rw [HS0.out, HU.out, he]; rfl)
              · first | exact HB.out.alloc hs _ | exact (HB.out.alloc hs _).alloc (by simp; omega) _
            case measure => first | decide | (simp [intOf])
          · go_wp2
            go_roundw
            case rel =>
              refine ⟨2, _, by decide, by first | rfl | go_num, rfl, ?_, ?_, ?_⟩
              · first | omega | (rw [ByteArray.size_append, ByteArray.size_append]; exact Nat.le_trans (Nat.add_le_add (Nat.add_le_add hu (show _ ≤ 2 by decide)) (show _ ≤ 9 by decide)) (by decide)) | (rw [ByteArray.size_append]; exact Nat.le_trans (Nat.add_le_add hu (show _ ≤ 9 by decide)) (by decide))
              · show F (1 + 1) = _
                first | (rw [HS1.out, HU.out]; done) | (rw [HS1.out, HU.out, he]; rfl)
              · first | exact HB.out.alloc hs _ | exact (HB.out.alloc hs _).alloc (by simp; omega) _
            case measure => first | decide | (simp [intOf])
          · go_wp2
            go_roundw
            case rel =>
              refine ⟨3, _, by decide, by first | rfl | go_num, rfl, ?_, ?_, ?_⟩
              · first | omega | (rw [ByteArray.size_append, ByteArray.size_append]; exact Nat.le_trans (Nat.add_le_add (Nat.add_le_add hu (show _ ≤ 2 by decide)) (show _ ≤ 9 by decide)) (by decide)) | (rw [ByteArray.size_append]; exact Nat.le_trans (Nat.add_le_add hu (show _ ≤ 9 by decide)) (by decide))
              · show F (2 + 1) = _
                first | (rw [HS2.out, HU.out]; done) | (rw [HS2.out, HU.out, he]; rfl)
              · first | exact HB.out.alloc hs _ | exact (HB.out.alloc hs _).alloc (by simp; omega) _
            case measure => first | decide | (simp [intOf])
          · go_wp2
            go_ret
            exact ⟨ret_text (by rw [HT.out, HU.out]), HB.out⟩
  · have q : (decide (0 ≤ n) && decide (n ≤ 7)) = false := by rw [Bool.and_eq_false_iff, decide_eq_false_iff_not, decide_eq_false_iff_not]; omega
    have HT : Hid (clearT n = ⟨#[]⟩) := by show _ = _; unfold clearT; rw [if_neg hr]
    rw [q] at KI
    go_enter Tryd.func14, Tryd.ntmps14
    go_wp2_with (go_at_call 39; refine (KI.out _).mono ?_; rintro e w1 ⟨rfl, rfl⟩)
    go_ret
    exact ⟨ret_text HT.out.symm, Below.refl _ _⟩
end Go.Proofs.YthcpmbolnmlohaaDoor

/- What ClearText writes, ClearRead reads: plain facts, no walk. -/
namespace Go.Proofs.YthcpmbolnmlohaaDoor
set_option linter.unusedSimpArgs false

theorem trim_nil : trimB ⟨#[]⟩ = ⟨#[]⟩ := by rw [trimB, trimL_nil (by decide), trimR_nil (by decide)]
theorem trim_w0 : trimB ⟨#[34, 99, 97, 99, 104, 101, 34]⟩ = ⟨#[34, 99, 97, 99, 104, 101, 34]⟩ := by rw [trimB, trimL_no (by decide) (by decide), trimR_no (by decide) (by decide)]
theorem trim_w1 : trimB ⟨#[34, 99, 111, 111, 107, 105, 101, 115, 34]⟩ = ⟨#[34, 99, 111, 111, 107, 105, 101, 115, 34]⟩ := by rw [trimB, trimL_no (by decide) (by decide), trimR_no (by decide) (by decide)]
theorem trim_w2 : trimB ⟨#[34, 115, 116, 111, 114, 97, 103, 101, 34]⟩ = ⟨#[34, 115, 116, 111, 114, 97, 103, 101, 34]⟩ := by rw [trimB, trimL_no (by decide) (by decide), trimR_no (by decide) (by decide)]
theorem trim_w3 : trimB ⟨#[34, 42, 34]⟩ = ⟨#[34, 42, 34]⟩ := by rw [trimB, trimL_no (by decide) (by decide), trimR_no (by decide) (by decide)]
theorem trim_b0 : trimB ⟨#[32, 34, 99, 111, 111, 107, 105, 101, 115, 34]⟩ = ⟨#[34, 99, 111, 111, 107, 105, 101, 115, 34]⟩ := by
  rw [trimB, trimL_yes (by decide) (by decide)]
  show trimR (trimL ⟨#[34, 99, 111, 111, 107, 105, 101, 115, 34]⟩) = _
  rw [trimL_no (by decide) (by decide), trimR_no (by decide) (by decide)]
theorem trim_b1 : trimB ⟨#[32, 34, 115, 116, 111, 114, 97, 103, 101, 34]⟩ = ⟨#[34, 115, 116, 111, 114, 97, 103, 101, 34]⟩ := by
  rw [trimB, trimL_yes (by decide) (by decide)]
  show trimR (trimL ⟨#[34, 115, 116, 111, 114, 97, 103, 101, 34]⟩) = _
  rw [trimL_no (by decide) (by decide), trimR_no (by decide) (by decide)]
theorem text_k0 : clearT 0 = ⟨#[]⟩ := by
  show ctTo 0 3 = _; simp only [ctTo, Lib.toList_data]; rfl
theorem split_k0 : splitB ⟨#[]⟩ 44 = [⟨#[]⟩] := by rfl
theorem back_k0 : clearI (clearT 0) = 0 := by
  rw [text_k0, clearI, if_neg (by decide), split_k0]
  simp only [clOf, clTo, atL, List.length_cons, List.length_nil, List.getD_cons_zero, List.getD_cons_succ, trim_nil, Lib.toList_data]
  rfl
theorem text_k1 : clearT 1 = ⟨#[34, 99, 97, 99, 104, 101, 34]⟩ := by
  show ctTo 1 3 = _; simp only [ctTo, Lib.toList_data]; rfl
theorem split_k1 : splitB ⟨#[34, 99, 97, 99, 104, 101, 34]⟩ 44 = [⟨#[34, 99, 97, 99, 104, 101, 34]⟩] := by rfl
theorem back_k1 : clearI (clearT 1) = 1 := by
  rw [text_k1, clearI, if_neg (by decide), split_k1]
  simp only [clOf, clTo, atL, List.length_cons, List.length_nil, List.getD_cons_zero, List.getD_cons_succ, trim_w0, Lib.toList_data]
  rfl
theorem text_k2 : clearT 2 = ⟨#[34, 99, 111, 111, 107, 105, 101, 115, 34]⟩ := by
  show ctTo 2 3 = _; simp only [ctTo, Lib.toList_data]; rfl
theorem split_k2 : splitB ⟨#[34, 99, 111, 111, 107, 105, 101, 115, 34]⟩ 44 = [⟨#[34, 99, 111, 111, 107, 105, 101, 115, 34]⟩] := by rfl
theorem back_k2 : clearI (clearT 2) = 2 := by
  rw [text_k2, clearI, if_neg (by decide), split_k2]
  simp only [clOf, clTo, atL, List.length_cons, List.length_nil, List.getD_cons_zero, List.getD_cons_succ, trim_w1, Lib.toList_data]
  rfl
theorem text_k3 : clearT 3 = ⟨#[34, 99, 97, 99, 104, 101, 34, 44, 32, 34, 99, 111, 111, 107, 105, 101, 115, 34]⟩ := by
  show ctTo 3 3 = _; simp only [ctTo, Lib.toList_data]; rfl
theorem split_k3 : splitB ⟨#[34, 99, 97, 99, 104, 101, 34, 44, 32, 34, 99, 111, 111, 107, 105, 101, 115, 34]⟩ 44 = [⟨#[34, 99, 97, 99, 104, 101, 34]⟩, ⟨#[32, 34, 99, 111, 111, 107, 105, 101, 115, 34]⟩] := by rfl
theorem back_k3 : clearI (clearT 3) = 3 := by
  rw [text_k3, clearI, if_neg (by decide), split_k3]
  simp only [clOf, clTo, atL, List.length_cons, List.length_nil, List.getD_cons_zero, List.getD_cons_succ, trim_b0, trim_w0, Lib.toList_data]
  rfl
theorem text_k4 : clearT 4 = ⟨#[34, 115, 116, 111, 114, 97, 103, 101, 34]⟩ := by
  show ctTo 4 3 = _; simp only [ctTo, Lib.toList_data]; rfl
theorem split_k4 : splitB ⟨#[34, 115, 116, 111, 114, 97, 103, 101, 34]⟩ 44 = [⟨#[34, 115, 116, 111, 114, 97, 103, 101, 34]⟩] := by rfl
theorem back_k4 : clearI (clearT 4) = 4 := by
  rw [text_k4, clearI, if_neg (by decide), split_k4]
  simp only [clOf, clTo, atL, List.length_cons, List.length_nil, List.getD_cons_zero, List.getD_cons_succ, trim_w2, Lib.toList_data]
  rfl
theorem text_k5 : clearT 5 = ⟨#[34, 99, 97, 99, 104, 101, 34, 44, 32, 34, 115, 116, 111, 114, 97, 103, 101, 34]⟩ := by
  show ctTo 5 3 = _; simp only [ctTo, Lib.toList_data]; rfl
theorem split_k5 : splitB ⟨#[34, 99, 97, 99, 104, 101, 34, 44, 32, 34, 115, 116, 111, 114, 97, 103, 101, 34]⟩ 44 = [⟨#[34, 99, 97, 99, 104, 101, 34]⟩, ⟨#[32, 34, 115, 116, 111, 114, 97, 103, 101, 34]⟩] := by rfl
theorem back_k5 : clearI (clearT 5) = 5 := by
  rw [text_k5, clearI, if_neg (by decide), split_k5]
  simp only [clOf, clTo, atL, List.length_cons, List.length_nil, List.getD_cons_zero, List.getD_cons_succ, trim_b1, trim_w0, Lib.toList_data]
  rfl
theorem text_k6 : clearT 6 = ⟨#[34, 99, 111, 111, 107, 105, 101, 115, 34, 44, 32, 34, 115, 116, 111, 114, 97, 103, 101, 34]⟩ := by
  show ctTo 6 3 = _; simp only [ctTo, Lib.toList_data]; rfl
theorem split_k6 : splitB ⟨#[34, 99, 111, 111, 107, 105, 101, 115, 34, 44, 32, 34, 115, 116, 111, 114, 97, 103, 101, 34]⟩ 44 = [⟨#[34, 99, 111, 111, 107, 105, 101, 115, 34]⟩, ⟨#[32, 34, 115, 116, 111, 114, 97, 103, 101, 34]⟩] := by rfl
theorem back_k6 : clearI (clearT 6) = 6 := by
  rw [text_k6, clearI, if_neg (by decide), split_k6]
  simp only [clOf, clTo, atL, List.length_cons, List.length_nil, List.getD_cons_zero, List.getD_cons_succ, trim_b1, trim_w1, Lib.toList_data]
  rfl
theorem text_k7 : clearT 7 = ⟨#[34, 42, 34]⟩ := by
  rfl
theorem split_k7 : splitB ⟨#[34, 42, 34]⟩ 44 = [⟨#[34, 42, 34]⟩] := by rfl
theorem back_k7 : clearI (clearT 7) = 7 := by
  rw [text_k7, clearI, if_neg (by decide), split_k7]
  simp only [clOf, clTo, atL, List.length_cons, List.length_nil, List.getD_cons_zero, List.getD_cons_succ, trim_w3, Lib.toList_data]
  rfl
theorem clear_back (n : Int) (h0 : 0 ≤ n) (h7 : n ≤ 7) : clearI (clearT n) = n := by
  have H : n = 0 ∨ n = 1 ∨ n = 2 ∨ n = 3 ∨ n = 4 ∨ n = 5 ∨ n = 6 ∨ n = 7 := by omega
  rcases H with rfl | rfl | rfl | rfl | rfl | rfl | rfl | rfl
  · exact back_k0
  · exact back_k1
  · exact back_k2
  · exact back_k3
  · exact back_k4
  · exact back_k5
  · exact back_k6
  · exact back_k7
end Go.Proofs.YthcpmbolnmlohaaDoor

/- A row of texts that is owned, joined by the library. -/
namespace Go.Proofs.YthcpmbolnmlohaaDoor
open Go.RowKit

theorem builderX : Builder.Extra Tryd.prog Tryd.lays156_ren where
  sizeBuilder := by kernel_rfl
  liesBuilder := by kernel_rfl
  t5 := Tryd.underlying5
  a5 := Tryd.isAgg5
  z5 := Tryd.sizeOf5
  v5 := Tryd.zeroValue5
  infoByte := by kernel_rfl
  cellsByte := by kernel_rfl
  sizeByte := by kernel_rfl
  neB5 := by decide
/-- texts with sep between -/
def joinB (L : List ByteArray) (sep : ByteArray) : ByteArray := ⟨(Lib.join (L.map (·.data.toList)) sep.data.toList).toArray⟩
theorem join_own (L : List ByteArray) (v : Value) (B : Nat) (t : TypeId) (sep : ByteArray) (w : World) (h : w.ownsRow B t 1 v L.length (strCells L)) (hN : L.length ≤ 140737488355328) (hz : (joinB L sep).size ≤ 140737488355328) :
    Calls Tryd.prog 34 #[v, .string sep] w fun e w' => e = .returned (.string (joinB L sep)) ∧ Below w.heap.size w w' := by
  obtain ⟨p, c, rfl, hs⟩ := slice_of_own h
  by_cases h0 : L.length = 0
  · have hL : L = [] := List.length_eq_zero_iff.1 h0
    subst hL
    exact (Any.strings_Join_none Tryd.lays156 builderX p c sep w).mono fun _ _ ⟨h1, h2⟩ => ⟨h1, h2 ▸ Below.refl _ _⟩
  · obtain ⟨g, rfl, -, hg, hc⟩ := hs (by omega)
    have hcap : L.length ≤ c := by
      obtain ⟨_, ⟨e, h0'⟩ | ⟨g', cap, cur, e, _, _, hle, _⟩⟩ := h
      · omega
      · injection e with _ _ e3
        omega
    refine Any.strings_Join Tryd.lays156 builderX g 0 c L sep w (fun j x hj => ?_) hg hN hcap hz
    obtain ⟨hj1, rfl⟩ := List.getElem?_eq_some_iff.1 hj
    have e : atL L j = L[j] := by simp [atL, hj1]
    rw [Nat.zero_add, ← e]
    exact (hc j hj1).1
/-- a row of one text, built -/
theorem own_one (w : World) (t : TypeId) (x : ByteArray) : (w.alloc (.cells #[.string x] t)).ownsRow w.heap.size t 1 (.slice (some ⟨w.heap.size, 0, none⟩) 1 1) [x].length (strCells [x]) :=
  ⟨rfl, .inr ⟨w.heap.size, 1, #[.string x], rfl, Nat.le_refl _, heap_alloc_new w _, Nat.le_refl _, by decide, rfl, rfl⟩⟩
end Go.Proofs.YthcpmbolnmlohaaDoor

/- The walk of the program's ClearText. Written by implcleartext.py. -/
namespace Go.Proofs.YthcpmbolnmlohaaDoor
open Go.RowKit

/-- the words of the first k kinds that are in it -/
def ctL (n : Int) : Nat → List ByteArray
  | 0 => []
  | k + 1 => if n / 2 ^ k % 2 = 0 then ctL n k else ctL n k ++ [ctW k]
theorem ctL_len (n : Int) : ∀ k, (ctL n k).length ≤ k
  | 0 => Nat.le_refl _
  | k + 1 => by
    have ih := ctL_len n k
    rw [ctL]; split
    · omega
    · simp; omega
theorem ctL_join (n : Int) (h : n = 0 ∨ n = 1 ∨ n = 2 ∨ n = 3 ∨ n = 4 ∨ n = 5 ∨ n = 6) : joinB (ctL n 3) ⟨#[44, 32]⟩ = clearT n ∧ (clearT n).size ≤ 100 := by
  rcases h with rfl | rfl | rfl | rfl | rfl | rfl | rfl
  · rw [text_k0]; exact ⟨rfl, by decide⟩
  · rw [text_k1]; exact ⟨rfl, by decide⟩
  · rw [text_k2]; exact ⟨rfl, by decide⟩
  · rw [text_k3]; exact ⟨rfl, by decide⟩
  · rw [text_k4]; exact ⟨rfl, by decide⟩
  · rw [text_k5]; exact ⟨rfl, by decide⟩
  · rw [text_k6]; exact ⟨rfl, by decide⟩
set_option maxRecDepth 10000 in
set_option maxHeartbeats 16000000 in
theorem clearText_any (n : Int) (w : World) (hK : KindI w) :
    Calls Tryd.prog 11 #[.int .i64 n] w fun e w' => e = .returned (.string (clearT n)) ∧ Below w.heap.size w w' := by
  by_cases hr : 0 ≤ n ∧ n ≤ 7
  case neg =>
    have HT : Hid (clearT n = ⟨#[]⟩) := by show _ = _; unfold clearT; rw [if_neg hr]
    generalize clearT n = R at *
    by_cases h0 : 0 ≤ n
    · have q0 : decide (n < (0 : Int)) = false := by rw [decide_eq_false_iff_not]; omega
      have q1 : decide ((7 : Int) < n) = true := by rw [decide_eq_true_iff]; omega
      go_enter Tryd.func11, Tryd.ntmps11
      go_wp2
      go_ret
      exact ⟨ret_text HT.out.symm, Below.refl _ _⟩
    · have q0 : decide (n < (0 : Int)) = true := by rw [decide_eq_true_iff]; omega
      go_enter Tryd.func11, Tryd.ntmps11
      go_wp2
      go_ret
      exact ⟨ret_text HT.out.symm, Below.refl _ _⟩
  by_cases h7 : n = 7
  · subst h7
    go_enter Tryd.func11, Tryd.ntmps11
    go_wp2
    go_ret
    exact ⟨rfl, Below.refl _ _⟩
  have H : n = 0 ∨ n = 1 ∨ n = 2 ∨ n = 3 ∨ n = 4 ∨ n = 5 ∨ n = 6 := by omega
  have HJ : Hid (joinB (ctL n 3) ⟨#[44, 32]⟩ = clearT n ∧ (clearT n).size ≤ 100) := ctL_join n H
  have HL : Hid (∀ k, (ctL n k).length ≤ k) := ctL_len n
  have HS : Hid (∀ k, ctL n (k + 1) = if n / 2 ^ k % 2 = 0 then ctL n k else ctL n k ++ [ctW k]) := fun _ => rfl
  have H0 : Hid (ctL n 0 = []) := rfl
  have W0 : Hid (ctW 0 = ⟨#[34, 99, 97, 99, 104, 101, 34]⟩) := rfl
  have W1 : Hid (ctW 1 = ⟨#[34, 99, 111, 111, 107, 105, 101, 115, 34]⟩) := rfl
  have W2 : Hid (ctW 2 = ⟨#[34, 115, 116, 111, 114, 97, 103, 101, 34]⟩) := rfl
  obtain ⟨k0, k1, k2⟩ := hK
  obtain ⟨i0, hi, hy0, hy1, hy2⟩ := info_parts infoStr
  have x0 : ∀ (a b c : ByteArray) (W : World), Sem.run Tryd.prog (Instr.index 53 (.agg #[.string a, .string b, .string c]) (.int .i64 0)) W = .ok (.string a) W := kind_index0
  have x1 : ∀ (a b c : ByteArray) (W : World), Sem.run Tryd.prog (Instr.index 53 (.agg #[.string a, .string b, .string c]) (.int .i64 1)) W = .ok (.string b) W := kind_index1
  have x2 : ∀ (a b c : ByteArray) (W : World), Sem.run Tryd.prog (Instr.index 53 (.agg #[.string a, .string b, .string c]) (.int .i64 2)) W = .ok (.string c) W := kind_index2
  clear hr h7
  generalize clearT n = R at *
  generalize ctL n = F at *
  rcases H with rfl | rfl | rfl | rfl | rfl | rfl | rfl
  · go_enter Tryd.func11, Tryd.ntmps11
    go_wp2
    go_loopw [3, 15] (fun v i wr => ∃ k : Nat, k ≤ 3 ∧ i = .int .i64 k ∧ Hid (wr.ownsRow w.heap.size 9 1 v (F k).length (strCells (F k))) ∧ Hid (Below w.heap.size w wr)) (fun _ i _ => 3 - (intOf i).toNat)
    case atStart => exact ⟨0, Nat.zero_le _, rfl, by rw [H0.out]; exact World.ownsRow_nil _ _ _ _, Below.refl _ _⟩
    case round =>
      obtain ⟨k, hk, rfl, HO, HB⟩ := hrel
      have hbs := HB.out.size
      have hfl := HL.out k
      rcases (show k = 0 ∨ k = 1 ∨ k = 2 ∨ k = 3 by omega) with rfl | rfl | rfl | rfl
      · have HE : Hid (F 1 = F 0) := by show _ = _; rw [HS.out 0, if_pos (by decide)]
        go_wp2
        go_roundw
        case rel => exact ⟨1, by omega, by first | rfl | go_num, by rw [HE.out]; exact HO, HB⟩
        case measure => first | decide | simp [intOf]
      · have HE : Hid (F 2 = F 1) := by show _ = _; rw [HS.out 1, if_pos (by decide)]
        go_wp2
        go_roundw
        case rel => exact ⟨2, by omega, by first | rfl | go_num, by rw [HE.out]; exact HO, HB⟩
        case measure => first | decide | simp [intOf]
      · have HE : Hid (F 3 = F 2) := by show _ = _; rw [HS.out 2, if_pos (by decide)]
        go_wp2
        go_roundw
        case rel => exact ⟨3, by omega, by first | rfl | go_num, by rw [HE.out]; exact HO, HB⟩
        case measure => first | decide | simp [intOf]
      · have KJ : Hid (Calls Tryd.prog 34 #[u3, .string ⟨#[44, 32]⟩] wr fun e w' => e = .returned (.string R) ∧ Below wr.heap.size wr w') := by
          have h := join_own (F 3) _ _ _ ⟨#[44, 32]⟩ _ HO.out (by omega) (by rw [HJ.out.1]; exact Nat.le_trans HJ.out.2 (by decide))
          rw [HJ.out.1] at h
          exact h
        go_wp2_with (go_at_call 34; refine KJ.out.mono ?_; rintro e w9 ⟨rfl, hb9⟩)
        go_ret
        exact ⟨rfl, HB.out.trans (hb9.mono HB.out.size)⟩
  · go_enter Tryd.func11, Tryd.ntmps11
    go_wp2
    go_loopw [3, 15] (fun v i wr => ∃ k : Nat, k ≤ 3 ∧ i = .int .i64 k ∧ Hid (wr.ownsRow w.heap.size 9 1 v (F k).length (strCells (F k))) ∧ Hid (Below w.heap.size w wr)) (fun _ i _ => 3 - (intOf i).toNat)
    case atStart => exact ⟨0, Nat.zero_le _, rfl, by rw [H0.out]; exact World.ownsRow_nil _ _ _ _, Below.refl _ _⟩
    case round =>
      obtain ⟨k, hk, rfl, HO, HB⟩ := hrel
      have hbs := HB.out.size
      have hfl := HL.out k
      rcases (show k = 0 ∨ k = 1 ∨ k = 2 ∨ k = 3 by omega) with rfl | rfl | rfl | rfl
      · have HE : Hid (F 1 = F 0 ++ [(⟨#[34, 99, 97, 99, 104, 101, 34]⟩ : ByteArray)]) := by show _ = _; rw [HS.out 0, if_neg (by decide), W0.out]
        go_wp2_with (at_builtin; go_must (refine wpList_append_own _ rfl _ _ 52 rfl w.heap.size 9 i0 (.string ⟨#[]⟩) 1 16 Tryd.underlying52 hi hy0 hy1 hy2 rfl (by decide) _ _ _ rfl (HO.out.alloc _) ⟨wr.heap.size, 0, none⟩ 1 1 [.string (⟨#[34, 99, 97, 99, 104, 101, 34]⟩ : ByteArray)] rfl rfl (cell_one_new _ _ _) (by intro u hu; simp at hu; subst hu; rfl) (by unfold maxLen; omega) (by omega) (by simp; omega) ?_))
        intro v4 w4 ho4 hg4 _
        rw [strCells_snoc] at ho4
        have G1 : Hid (w4.ownsRow w.heap.size 9 1 v4 (F 0 ++ [(⟨#[34, 99, 97, 99, 104, 101, 34]⟩ : ByteArray)]).length (strCells (F 0 ++ [(⟨#[34, 99, 97, 99, 104, 101, 34]⟩ : ByteArray)]))) := by show World.ownsRow _ _ _ _ _ _ _; simpa using ho4
        have G2 : Hid (Below w.heap.size w w4) := (HB.out.alloc hbs _).grown hg4 (by simp; omega) (fun j hj => (HO.out.lt j hj).1)
        clear ho4 hg4
        go_wp2
        go_roundw
        case rel => exact ⟨1, by omega, by first | rfl | go_num, by rw [HE.out]; exact G1, G2⟩
        case measure => first | decide | simp [intOf]
      · have HE : Hid (F 2 = F 1) := by show _ = _; rw [HS.out 1, if_pos (by decide)]
        go_wp2
        go_roundw
        case rel => exact ⟨2, by omega, by first | rfl | go_num, by rw [HE.out]; exact HO, HB⟩
        case measure => first | decide | simp [intOf]
      · have HE : Hid (F 3 = F 2) := by show _ = _; rw [HS.out 2, if_pos (by decide)]
        go_wp2
        go_roundw
        case rel => exact ⟨3, by omega, by first | rfl | go_num, by rw [HE.out]; exact HO, HB⟩
        case measure => first | decide | simp [intOf]
      · have KJ : Hid (Calls Tryd.prog 34 #[u3, .string ⟨#[44, 32]⟩] wr fun e w' => e = .returned (.string R) ∧ Below wr.heap.size wr w') := by
          have h := join_own (F 3) _ _ _ ⟨#[44, 32]⟩ _ HO.out (by omega) (by rw [HJ.out.1]; exact Nat.le_trans HJ.out.2 (by decide))
          rw [HJ.out.1] at h
          exact h
        go_wp2_with (go_at_call 34; refine KJ.out.mono ?_; rintro e w9 ⟨rfl, hb9⟩)
        go_ret
        exact ⟨rfl, HB.out.trans (hb9.mono HB.out.size)⟩
  · go_enter Tryd.func11, Tryd.ntmps11
    go_wp2
    go_loopw [3, 15] (fun v i wr => ∃ k : Nat, k ≤ 3 ∧ i = .int .i64 k ∧ Hid (wr.ownsRow w.heap.size 9 1 v (F k).length (strCells (F k))) ∧ Hid (Below w.heap.size w wr)) (fun _ i _ => 3 - (intOf i).toNat)
    case atStart => exact ⟨0, Nat.zero_le _, rfl, by rw [H0.out]; exact World.ownsRow_nil _ _ _ _, Below.refl _ _⟩
    case round =>
      obtain ⟨k, hk, rfl, HO, HB⟩ := hrel
      have hbs := HB.out.size
      have hfl := HL.out k
      rcases (show k = 0 ∨ k = 1 ∨ k = 2 ∨ k = 3 by omega) with rfl | rfl | rfl | rfl
      · have HE : Hid (F 1 = F 0) := by show _ = _; rw [HS.out 0, if_pos (by decide)]
        go_wp2
        go_roundw
        case rel => exact ⟨1, by omega, by first | rfl | go_num, by rw [HE.out]; exact HO, HB⟩
        case measure => first | decide | simp [intOf]
      · have HE : Hid (F 2 = F 1 ++ [(⟨#[34, 99, 111, 111, 107, 105, 101, 115, 34]⟩ : ByteArray)]) := by show _ = _; rw [HS.out 1, if_neg (by decide), W1.out]
        go_wp2_with (at_builtin; go_must (refine wpList_append_own _ rfl _ _ 52 rfl w.heap.size 9 i0 (.string ⟨#[]⟩) 1 16 Tryd.underlying52 hi hy0 hy1 hy2 rfl (by decide) _ _ _ rfl (HO.out.alloc _) ⟨wr.heap.size, 0, none⟩ 1 1 [.string (⟨#[34, 99, 111, 111, 107, 105, 101, 115, 34]⟩ : ByteArray)] rfl rfl (cell_one_new _ _ _) (by intro u hu; simp at hu; subst hu; rfl) (by unfold maxLen; omega) (by omega) (by simp; omega) ?_))
        intro v4 w4 ho4 hg4 _
        rw [strCells_snoc] at ho4
        have G1 : Hid (w4.ownsRow w.heap.size 9 1 v4 (F 1 ++ [(⟨#[34, 99, 111, 111, 107, 105, 101, 115, 34]⟩ : ByteArray)]).length (strCells (F 1 ++ [(⟨#[34, 99, 111, 111, 107, 105, 101, 115, 34]⟩ : ByteArray)]))) := by show World.ownsRow _ _ _ _ _ _ _; simpa using ho4
        have G2 : Hid (Below w.heap.size w w4) := (HB.out.alloc hbs _).grown hg4 (by simp; omega) (fun j hj => (HO.out.lt j hj).1)
        clear ho4 hg4
        go_wp2
        go_roundw
        case rel => exact ⟨2, by omega, by first | rfl | go_num, by rw [HE.out]; exact G1, G2⟩
        case measure => first | decide | simp [intOf]
      · have HE : Hid (F 3 = F 2) := by show _ = _; rw [HS.out 2, if_pos (by decide)]
        go_wp2
        go_roundw
        case rel => exact ⟨3, by omega, by first | rfl | go_num, by rw [HE.out]; exact HO, HB⟩
        case measure => first | decide | simp [intOf]
      · have KJ : Hid (Calls Tryd.prog 34 #[u3, .string ⟨#[44, 32]⟩] wr fun e w' => e = .returned (.string R) ∧ Below wr.heap.size wr w') := by
          have h := join_own (F 3) _ _ _ ⟨#[44, 32]⟩ _ HO.out (by omega) (by rw [HJ.out.1]; exact Nat.le_trans HJ.out.2 (by decide))
          rw [HJ.out.1] at h
          exact h
        go_wp2_with (go_at_call 34; refine KJ.out.mono ?_; rintro e w9 ⟨rfl, hb9⟩)
        go_ret
        exact ⟨rfl, HB.out.trans (hb9.mono HB.out.size)⟩
  · go_enter Tryd.func11, Tryd.ntmps11
    go_wp2
    go_loopw [3, 15] (fun v i wr => ∃ k : Nat, k ≤ 3 ∧ i = .int .i64 k ∧ Hid (wr.ownsRow w.heap.size 9 1 v (F k).length (strCells (F k))) ∧ Hid (Below w.heap.size w wr)) (fun _ i _ => 3 - (intOf i).toNat)
    case atStart => exact ⟨0, Nat.zero_le _, rfl, by rw [H0.out]; exact World.ownsRow_nil _ _ _ _, Below.refl _ _⟩
    case round =>
      obtain ⟨k, hk, rfl, HO, HB⟩ := hrel
      have hbs := HB.out.size
      have hfl := HL.out k
      rcases (show k = 0 ∨ k = 1 ∨ k = 2 ∨ k = 3 by omega) with rfl | rfl | rfl | rfl
      · have HE : Hid (F 1 = F 0 ++ [(⟨#[34, 99, 97, 99, 104, 101, 34]⟩ : ByteArray)]) := by show _ = _; rw [HS.out 0, if_neg (by decide), W0.out]
        go_wp2_with (at_builtin; go_must (refine wpList_append_own _ rfl _ _ 52 rfl w.heap.size 9 i0 (.string ⟨#[]⟩) 1 16 Tryd.underlying52 hi hy0 hy1 hy2 rfl (by decide) _ _ _ rfl (HO.out.alloc _) ⟨wr.heap.size, 0, none⟩ 1 1 [.string (⟨#[34, 99, 97, 99, 104, 101, 34]⟩ : ByteArray)] rfl rfl (cell_one_new _ _ _) (by intro u hu; simp at hu; subst hu; rfl) (by unfold maxLen; omega) (by omega) (by simp; omega) ?_))
        intro v4 w4 ho4 hg4 _
        rw [strCells_snoc] at ho4
        have G1 : Hid (w4.ownsRow w.heap.size 9 1 v4 (F 0 ++ [(⟨#[34, 99, 97, 99, 104, 101, 34]⟩ : ByteArray)]).length (strCells (F 0 ++ [(⟨#[34, 99, 97, 99, 104, 101, 34]⟩ : ByteArray)]))) := by show World.ownsRow _ _ _ _ _ _ _; simpa using ho4
        have G2 : Hid (Below w.heap.size w w4) := (HB.out.alloc hbs _).grown hg4 (by simp; omega) (fun j hj => (HO.out.lt j hj).1)
        clear ho4 hg4
        go_wp2
        go_roundw
        case rel => exact ⟨1, by omega, by first | rfl | go_num, by rw [HE.out]; exact G1, G2⟩
        case measure => first | decide | simp [intOf]
      · have HE : Hid (F 2 = F 1 ++ [(⟨#[34, 99, 111, 111, 107, 105, 101, 115, 34]⟩ : ByteArray)]) := by show _ = _; rw [HS.out 1, if_neg (by decide), W1.out]
        go_wp2_with (at_builtin; go_must (refine wpList_append_own _ rfl _ _ 52 rfl w.heap.size 9 i0 (.string ⟨#[]⟩) 1 16 Tryd.underlying52 hi hy0 hy1 hy2 rfl (by decide) _ _ _ rfl (HO.out.alloc _) ⟨wr.heap.size, 0, none⟩ 1 1 [.string (⟨#[34, 99, 111, 111, 107, 105, 101, 115, 34]⟩ : ByteArray)] rfl rfl (cell_one_new _ _ _) (by intro u hu; simp at hu; subst hu; rfl) (by unfold maxLen; omega) (by omega) (by simp; omega) ?_))
        intro v4 w4 ho4 hg4 _
        rw [strCells_snoc] at ho4
        have G1 : Hid (w4.ownsRow w.heap.size 9 1 v4 (F 1 ++ [(⟨#[34, 99, 111, 111, 107, 105, 101, 115, 34]⟩ : ByteArray)]).length (strCells (F 1 ++ [(⟨#[34, 99, 111, 111, 107, 105, 101, 115, 34]⟩ : ByteArray)]))) := by show World.ownsRow _ _ _ _ _ _ _; simpa using ho4
        have G2 : Hid (Below w.heap.size w w4) := (HB.out.alloc hbs _).grown hg4 (by simp; omega) (fun j hj => (HO.out.lt j hj).1)
        clear ho4 hg4
        go_wp2
        go_roundw
        case rel => exact ⟨2, by omega, by first | rfl | go_num, by rw [HE.out]; exact G1, G2⟩
        case measure => first | decide | simp [intOf]
      · have HE : Hid (F 3 = F 2) := by show _ = _; rw [HS.out 2, if_pos (by decide)]
        go_wp2
        go_roundw
        case rel => exact ⟨3, by omega, by first | rfl | go_num, by rw [HE.out]; exact HO, HB⟩
        case measure => first | decide | simp [intOf]
      · have KJ : Hid (Calls Tryd.prog 34 #[u3, .string ⟨#[44, 32]⟩] wr fun e w' => e = .returned (.string R) ∧ Below wr.heap.size wr w') := by
          have h := join_own (F 3) _ _ _ ⟨#[44, 32]⟩ _ HO.out (by omega) (by rw [HJ.out.1]; exact Nat.le_trans HJ.out.2 (by decide))
          rw [HJ.out.1] at h
          exact h
        go_wp2_with (go_at_call 34; refine KJ.out.mono ?_; rintro e w9 ⟨rfl, hb9⟩)
        go_ret
        exact ⟨rfl, HB.out.trans (hb9.mono HB.out.size)⟩
  · go_enter Tryd.func11, Tryd.ntmps11
    go_wp2
    go_loopw [3, 15] (fun v i wr => ∃ k : Nat, k ≤ 3 ∧ i = .int .i64 k ∧ Hid (wr.ownsRow w.heap.size 9 1 v (F k).length (strCells (F k))) ∧ Hid (Below w.heap.size w wr)) (fun _ i _ => 3 - (intOf i).toNat)
    case atStart => exact ⟨0, Nat.zero_le _, rfl, by rw [H0.out]; exact World.ownsRow_nil _ _ _ _, Below.refl _ _⟩
    case round =>
      obtain ⟨k, hk, rfl, HO, HB⟩ := hrel
      have hbs := HB.out.size
      have hfl := HL.out k
      rcases (show k = 0 ∨ k = 1 ∨ k = 2 ∨ k = 3 by omega) with rfl | rfl | rfl | rfl
      · have HE : Hid (F 1 = F 0) := by show _ = _; rw [HS.out 0, if_pos (by decide)]
        go_wp2
        go_roundw
        case rel => exact ⟨1, by omega, by first | rfl | go_num, by rw [HE.out]; exact HO, HB⟩
        case measure => first | decide | simp [intOf]
      · have HE : Hid (F 2 = F 1) := by show _ = _; rw [HS.out 1, if_pos (by decide)]
        go_wp2
        go_roundw
        case rel => exact ⟨2, by omega, by first | rfl | go_num, by rw [HE.out]; exact HO, HB⟩
        case measure => first | decide | simp [intOf]
      · have HE : Hid (F 3 = F 2 ++ [(⟨#[34, 115, 116, 111, 114, 97, 103, 101, 34]⟩ : ByteArray)]) := by show _ = _; rw [HS.out 2, if_neg (by decide), W2.out]
        go_wp2_with (at_builtin; go_must (refine wpList_append_own _ rfl _ _ 52 rfl w.heap.size 9 i0 (.string ⟨#[]⟩) 1 16 Tryd.underlying52 hi hy0 hy1 hy2 rfl (by decide) _ _ _ rfl (HO.out.alloc _) ⟨wr.heap.size, 0, none⟩ 1 1 [.string (⟨#[34, 115, 116, 111, 114, 97, 103, 101, 34]⟩ : ByteArray)] rfl rfl (cell_one_new _ _ _) (by intro u hu; simp at hu; subst hu; rfl) (by unfold maxLen; omega) (by omega) (by simp; omega) ?_))
        intro v4 w4 ho4 hg4 _
        rw [strCells_snoc] at ho4
        have G1 : Hid (w4.ownsRow w.heap.size 9 1 v4 (F 2 ++ [(⟨#[34, 115, 116, 111, 114, 97, 103, 101, 34]⟩ : ByteArray)]).length (strCells (F 2 ++ [(⟨#[34, 115, 116, 111, 114, 97, 103, 101, 34]⟩ : ByteArray)]))) := by show World.ownsRow _ _ _ _ _ _ _; simpa using ho4
        have G2 : Hid (Below w.heap.size w w4) := (HB.out.alloc hbs _).grown hg4 (by simp; omega) (fun j hj => (HO.out.lt j hj).1)
        clear ho4 hg4
        go_wp2
        go_roundw
        case rel => exact ⟨3, by omega, by first | rfl | go_num, by rw [HE.out]; exact G1, G2⟩
        case measure => first | decide | simp [intOf]
      · have KJ : Hid (Calls Tryd.prog 34 #[u3, .string ⟨#[44, 32]⟩] wr fun e w' => e = .returned (.string R) ∧ Below wr.heap.size wr w') := by
          have h := join_own (F 3) _ _ _ ⟨#[44, 32]⟩ _ HO.out (by omega) (by rw [HJ.out.1]; exact Nat.le_trans HJ.out.2 (by decide))
          rw [HJ.out.1] at h
          exact h
        go_wp2_with (go_at_call 34; refine KJ.out.mono ?_; rintro e w9 ⟨rfl, hb9⟩)
        go_ret
        exact ⟨rfl, HB.out.trans (hb9.mono HB.out.size)⟩
  · go_enter Tryd.func11, Tryd.ntmps11
    go_wp2
    go_loopw [3, 15] (fun v i wr => ∃ k : Nat, k ≤ 3 ∧ i = .int .i64 k ∧ Hid (wr.ownsRow w.heap.size 9 1 v (F k).length (strCells (F k))) ∧ Hid (Below w.heap.size w wr)) (fun _ i _ => 3 - (intOf i).toNat)
    case atStart => exact ⟨0, Nat.zero_le _, rfl, by rw [H0.out]; exact World.ownsRow_nil _ _ _ _, Below.refl _ _⟩
    case round =>
      obtain ⟨k, hk, rfl, HO, HB⟩ := hrel
      have hbs := HB.out.size
      have hfl := HL.out k
      rcases (show k = 0 ∨ k = 1 ∨ k = 2 ∨ k = 3 by omega) with rfl | rfl | rfl | rfl
      · have HE : Hid (F 1 = F 0 ++ [(⟨#[34, 99, 97, 99, 104, 101, 34]⟩ : ByteArray)]) := by show _ = _; rw [HS.out 0, if_neg (by decide), W0.out]
        go_wp2_with (at_builtin; go_must (refine wpList_append_own _ rfl _ _ 52 rfl w.heap.size 9 i0 (.string ⟨#[]⟩) 1 16 Tryd.underlying52 hi hy0 hy1 hy2 rfl (by decide) _ _ _ rfl (HO.out.alloc _) ⟨wr.heap.size, 0, none⟩ 1 1 [.string (⟨#[34, 99, 97, 99, 104, 101, 34]⟩ : ByteArray)] rfl rfl (cell_one_new _ _ _) (by intro u hu; simp at hu; subst hu; rfl) (by unfold maxLen; omega) (by omega) (by simp; omega) ?_))
        intro v4 w4 ho4 hg4 _
        rw [strCells_snoc] at ho4
        have G1 : Hid (w4.ownsRow w.heap.size 9 1 v4 (F 0 ++ [(⟨#[34, 99, 97, 99, 104, 101, 34]⟩ : ByteArray)]).length (strCells (F 0 ++ [(⟨#[34, 99, 97, 99, 104, 101, 34]⟩ : ByteArray)]))) := by show World.ownsRow _ _ _ _ _ _ _; simpa using ho4
        have G2 : Hid (Below w.heap.size w w4) := (HB.out.alloc hbs _).grown hg4 (by simp; omega) (fun j hj => (HO.out.lt j hj).1)
        clear ho4 hg4
        go_wp2
        go_roundw
        case rel => exact ⟨1, by omega, by first | rfl | go_num, by rw [HE.out]; exact G1, G2⟩
        case measure => first | decide | simp [intOf]
      · have HE : Hid (F 2 = F 1) := by show _ = _; rw [HS.out 1, if_pos (by decide)]
        go_wp2
        go_roundw
        case rel => exact ⟨2, by omega, by first | rfl | go_num, by rw [HE.out]; exact HO, HB⟩
        case measure => first | decide | simp [intOf]
      · have HE : Hid (F 3 = F 2 ++ [(⟨#[34, 115, 116, 111, 114, 97, 103, 101, 34]⟩ : ByteArray)]) := by show _ = _; rw [HS.out 2, if_neg (by decide), W2.out]
        go_wp2_with (at_builtin; go_must (refine wpList_append_own _ rfl _ _ 52 rfl w.heap.size 9 i0 (.string ⟨#[]⟩) 1 16 Tryd.underlying52 hi hy0 hy1 hy2 rfl (by decide) _ _ _ rfl (HO.out.alloc _) ⟨wr.heap.size, 0, none⟩ 1 1 [.string (⟨#[34, 115, 116, 111, 114, 97, 103, 101, 34]⟩ : ByteArray)] rfl rfl (cell_one_new _ _ _) (by intro u hu; simp at hu; subst hu; rfl) (by unfold maxLen; omega) (by omega) (by simp; omega) ?_))
        intro v4 w4 ho4 hg4 _
        rw [strCells_snoc] at ho4
        have G1 : Hid (w4.ownsRow w.heap.size 9 1 v4 (F 2 ++ [(⟨#[34, 115, 116, 111, 114, 97, 103, 101, 34]⟩ : ByteArray)]).length (strCells (F 2 ++ [(⟨#[34, 115, 116, 111, 114, 97, 103, 101, 34]⟩ : ByteArray)]))) := by show World.ownsRow _ _ _ _ _ _ _; simpa using ho4
        have G2 : Hid (Below w.heap.size w w4) := (HB.out.alloc hbs _).grown hg4 (by simp; omega) (fun j hj => (HO.out.lt j hj).1)
        clear ho4 hg4
        go_wp2
        go_roundw
        case rel => exact ⟨3, by omega, by first | rfl | go_num, by rw [HE.out]; exact G1, G2⟩
        case measure => first | decide | simp [intOf]
      · have KJ : Hid (Calls Tryd.prog 34 #[u3, .string ⟨#[44, 32]⟩] wr fun e w' => e = .returned (.string R) ∧ Below wr.heap.size wr w') := by
          have h := join_own (F 3) _ _ _ ⟨#[44, 32]⟩ _ HO.out (by omega) (by rw [HJ.out.1]; exact Nat.le_trans HJ.out.2 (by decide))
          rw [HJ.out.1] at h
          exact h
        go_wp2_with (go_at_call 34; refine KJ.out.mono ?_; rintro e w9 ⟨rfl, hb9⟩)
        go_ret
        exact ⟨rfl, HB.out.trans (hb9.mono HB.out.size)⟩
  · go_enter Tryd.func11, Tryd.ntmps11
    go_wp2
    go_loopw [3, 15] (fun v i wr => ∃ k : Nat, k ≤ 3 ∧ i = .int .i64 k ∧ Hid (wr.ownsRow w.heap.size 9 1 v (F k).length (strCells (F k))) ∧ Hid (Below w.heap.size w wr)) (fun _ i _ => 3 - (intOf i).toNat)
    case atStart => exact ⟨0, Nat.zero_le _, rfl, by rw [H0.out]; exact World.ownsRow_nil _ _ _ _, Below.refl _ _⟩
    case round =>
      obtain ⟨k, hk, rfl, HO, HB⟩ := hrel
      have hbs := HB.out.size
      have hfl := HL.out k
      rcases (show k = 0 ∨ k = 1 ∨ k = 2 ∨ k = 3 by omega) with rfl | rfl | rfl | rfl
      · have HE : Hid (F 1 = F 0) := by show _ = _; rw [HS.out 0, if_pos (by decide)]
        go_wp2
        go_roundw
        case rel => exact ⟨1, by omega, by first | rfl | go_num, by rw [HE.out]; exact HO, HB⟩
        case measure => first | decide | simp [intOf]
      · have HE : Hid (F 2 = F 1 ++ [(⟨#[34, 99, 111, 111, 107, 105, 101, 115, 34]⟩ : ByteArray)]) := by show _ = _; rw [HS.out 1, if_neg (by decide), W1.out]
        go_wp2_with (at_builtin; go_must (refine wpList_append_own _ rfl _ _ 52 rfl w.heap.size 9 i0 (.string ⟨#[]⟩) 1 16 Tryd.underlying52 hi hy0 hy1 hy2 rfl (by decide) _ _ _ rfl (HO.out.alloc _) ⟨wr.heap.size, 0, none⟩ 1 1 [.string (⟨#[34, 99, 111, 111, 107, 105, 101, 115, 34]⟩ : ByteArray)] rfl rfl (cell_one_new _ _ _) (by intro u hu; simp at hu; subst hu; rfl) (by unfold maxLen; omega) (by omega) (by simp; omega) ?_))
        intro v4 w4 ho4 hg4 _
        rw [strCells_snoc] at ho4
        have G1 : Hid (w4.ownsRow w.heap.size 9 1 v4 (F 1 ++ [(⟨#[34, 99, 111, 111, 107, 105, 101, 115, 34]⟩ : ByteArray)]).length (strCells (F 1 ++ [(⟨#[34, 99, 111, 111, 107, 105, 101, 115, 34]⟩ : ByteArray)]))) := by show World.ownsRow _ _ _ _ _ _ _; simpa using ho4
        have G2 : Hid (Below w.heap.size w w4) := (HB.out.alloc hbs _).grown hg4 (by simp; omega) (fun j hj => (HO.out.lt j hj).1)
        clear ho4 hg4
        go_wp2
        go_roundw
        case rel => exact ⟨2, by omega, by first | rfl | go_num, by rw [HE.out]; exact G1, G2⟩
        case measure => first | decide | simp [intOf]
      · have HE : Hid (F 3 = F 2 ++ [(⟨#[34, 115, 116, 111, 114, 97, 103, 101, 34]⟩ : ByteArray)]) := by show _ = _; rw [HS.out 2, if_neg (by decide), W2.out]
        go_wp2_with (at_builtin; go_must (refine wpList_append_own _ rfl _ _ 52 rfl w.heap.size 9 i0 (.string ⟨#[]⟩) 1 16 Tryd.underlying52 hi hy0 hy1 hy2 rfl (by decide) _ _ _ rfl (HO.out.alloc _) ⟨wr.heap.size, 0, none⟩ 1 1 [.string (⟨#[34, 115, 116, 111, 114, 97, 103, 101, 34]⟩ : ByteArray)] rfl rfl (cell_one_new _ _ _) (by intro u hu; simp at hu; subst hu; rfl) (by unfold maxLen; omega) (by omega) (by simp; omega) ?_))
        intro v4 w4 ho4 hg4 _
        rw [strCells_snoc] at ho4
        have G1 : Hid (w4.ownsRow w.heap.size 9 1 v4 (F 2 ++ [(⟨#[34, 115, 116, 111, 114, 97, 103, 101, 34]⟩ : ByteArray)]).length (strCells (F 2 ++ [(⟨#[34, 115, 116, 111, 114, 97, 103, 101, 34]⟩ : ByteArray)]))) := by show World.ownsRow _ _ _ _ _ _ _; simpa using ho4
        have G2 : Hid (Below w.heap.size w w4) := (HB.out.alloc hbs _).grown hg4 (by simp; omega) (fun j hj => (HO.out.lt j hj).1)
        clear ho4 hg4
        go_wp2
        go_roundw
        case rel => exact ⟨3, by omega, by first | rfl | go_num, by rw [HE.out]; exact G1, G2⟩
        case measure => first | decide | simp [intOf]
      · have KJ : Hid (Calls Tryd.prog 34 #[u3, .string ⟨#[44, 32]⟩] wr fun e w' => e = .returned (.string R) ∧ Below wr.heap.size wr w') := by
          have h := join_own (F 3) _ _ _ ⟨#[44, 32]⟩ _ HO.out (by omega) (by rw [HJ.out.1]; exact Nat.le_trans HJ.out.2 (by decide))
          rw [HJ.out.1] at h
          exact h
        go_wp2_with (go_at_call 34; refine KJ.out.mono ?_; rintro e w9 ⟨rfl, hb9⟩)
        go_ret
        exact ⟨rfl, HB.out.trans (hb9.mono HB.out.size)⟩
end Go.Proofs.YthcpmbolnmlohaaDoor

/- A slice of bytes that came in, as a law's frame opens it, is a row of a code. -/
namespace Go.Proofs.YthcpmbolnmlohaaDoor
open Go.ChangeShapes Go.WideShapes Go.ChangeAt Go.RowKit

theorem codeRow_of {H : Type} {enc : TypeId × Value → H} {W : World} {a : Option Addr} {len cap : Nat} {d : DataW H} {p : List MemPlace}
    (h : ∃ fuel, DataW.trod enc Tryd.prog W 0 (fun _ => true) true fuel 22 (Value.slice a len cap).cells.toList = some (d, p)) : CodeRow W a len := by
  obtain ⟨fuel, hf⟩ := h
  rcases open_ints Tryd.underlying22 Tryd.underlying5 (by kernel_rfl) hf with ⟨hcs, _⟩ | ⟨x, l, c, zs, hcs, _, hl, hm, hz, _, hcell, hwz⟩
  · simp [Value.cells] at hcs
    obtain ⟨rfl, rfl, rfl⟩ := hcs
    exact fun i hi => absurd hi (by omega)
  · simp [Value.cells] at hcs
    obtain ⟨rfl, rfl, rfl⟩ := hcs
    intro i hi
    have hz2 : zs.length = cap := by simpa using hz
    have hc := hcell i (by omega)
    have hb := hwz (zs.getD i 0) (by simp [List.getD, show i < zs.length by omega])
    generalize zs.getD i 0 = z at hb hc
    have hbb : 0 ≤ z ∧ z < 256 := by
      simp [Lit.wf, IntKind.min, IntKind.max, IntKind.signed, IntKind.bits] at hb
      omega
    refine ⟨_, _, rfl, ?_, hc, hbb.1, hbb.2⟩
    have : (x.add i).block < W.heap.size := by
      by_cases h : (x.add i).block < W.heap.size
      · exact h
      · exfalso
        simp [World.cell?, Array.getElem?_eq_none (show W.heap.size ≤ (x.add i).block by omega)] at hc
    have e : (x.add i).block = x.block := by
      unfold Addr.add; split
      · rfl
      · rfl
    rw [e] at this; exact this
end Go.Proofs.YthcpmbolnmlohaaDoor

/- The law FnKinds, walked. -/
namespace Go.Proofs.YthcpmbolnmlohaaDoor
open Go.RowKit
set_option maxRecDepth 10000 in
set_option maxHeartbeats 4000000 in
theorem lawFnKinds_any (a0 : Option Addr) (len0 cap0 : Nat) (a1 : Option Addr) (len1 cap1 : Nat) (w : World) (hG : MaxI w) (hK : KindI w) (c0 : CodeRow w a0 len0) (c1 : CodeRow w a1 len1) :
    Calls Tryd.prog 3 #[.slice a0 len0 cap0, .slice a1 len1 cap1] w fun e w' => e = .returned (.bool true) ∧ Below w.heap.size w w' := by
  by_cases h0 : 1048576 < len0
  · have q0 : decide ((1048576 : Int) < (len0 : Int)) = true := by rw [decide_eq_true_iff]; omega
    go_enter Tryd.func3, Tryd.ntmps3
    go_wp2
    go_ret
    exact ⟨rfl, Below.refl _ _⟩
  have q0 : decide ((1048576 : Int) < (len0 : Int)) = false := by rw [decide_eq_false_iff_not]; omega
  by_cases h1 : 1048576 < len1
  · have q1 : decide ((1048576 : Int) < (len1 : Int)) = true := by rw [decide_eq_true_iff]; omega
    go_enter Tryd.func3, Tryd.ntmps3
    go_wp2
    go_ret
    exact ⟨rfl, Below.refl _ _⟩
  have q1 : decide ((1048576 : Int) < (len1 : Int)) = false := by rw [decide_eq_false_iff_not]; omega
  have KN : Hid (∀ W, Below w.heap.size w W → Calls Tryd.prog 10 #[.slice a0 len0 cap0] W fun e w' => (∃ n : Int, e = .returned (.int .i64 n)) ∧ Below W.heap.size W w') := fun W hb => drawClearText_any a0 len0 cap0 W (c0.below hb) (by omega)
  have KA : Hid (∀ W, Below w.heap.size w W → Calls Tryd.prog 12 #[.slice a0 len0 cap0] W fun e w' => (∃ t : ByteArray, e = .returned (.string t) ∧ t.size ≤ 100) ∧ Below W.heap.size W w') := fun W hb => drawClearRead_any a0 len0 cap0 W (c0.below hb) (by omega)
  have KB : Hid (∀ W, Below w.heap.size w W → Calls Tryd.prog 12 #[.slice a1 len1 cap1] W fun e w' => (∃ t : ByteArray, e = .returned (.string t) ∧ t.size ≤ 100) ∧ Below W.heap.size W w') := fun W hb => drawClearRead_any a1 len1 cap1 W (c1.below hb) (by omega)
  have IT : Hid (∀ n W, Below w.heap.size w W → Calls Tryd.prog 11 #[.int .i64 n] W fun e w' => e = .returned (.string (clearT n)) ∧ Below W.heap.size W w') := fun n W hb => clearText_any n W (hK.on hb)
  have ST : Hid (∀ n W, Calls Tryd.prog 14 #[.int .i64 n] W fun e w' => e = .returned (.string (clearT n)) ∧ Below W.heap.size W w') := fun n W => specClearText_any n W
  have IR : Hid (∀ t W, Below w.heap.size w W → Calls Tryd.prog 13 #[.string t] W fun e w' => e = .returned (.int .i64 (clearI t)) ∧ Below W.heap.size W w') := fun t W hb => clearRead_any t W (hG.on hb) (hK.on hb)
  have SR : Hid (∀ t W, Calls Tryd.prog 15 #[.string t] W fun e w' => e = .returned (.int .i64 (clearI t)) ∧ Below W.heap.size W w') := fun t W => specClearRead_any t W
  clear hG hK c0 c1
  go_enter Tryd.func3, Tryd.ntmps3
  go_wp2_with fail
  refine (KN.out _ (Below.refl _ _)).mono ?_
  rintro e w1 ⟨⟨n, rfl⟩, hb1⟩
  have B1 : Hid (Below w.heap.size w w1) := hb1
  clear hb1 KN
  go_wp2_with fail
  refine (IT.out n _ B1.out).mono ?_
  rintro e w2 ⟨rfl, hb2⟩
  have B2 : Hid (Below w.heap.size w w2) := B1.out.trans (hb2.mono B1.out.size)
  clear hb2 B1
  go_wp2_with fail
  refine (KA.out _ B2.out).mono ?_
  rintro e w3 ⟨⟨a, rfl, ha⟩, hb3⟩
  have B3 : Hid (Below w.heap.size w w3) := B2.out.trans (hb3.mono B2.out.size)
  clear hb3 B2 KA
  go_wp2_with fail
  refine (KB.out _ B3.out).mono ?_
  rintro e w4 ⟨⟨b, rfl, hb⟩, hb4⟩
  have B4 : Hid (Below w.heap.size w w4) := B3.out.trans (hb4.mono B3.out.size)
  clear hb4 B3 KB
  obtain ⟨o1, o2, o3⟩ := clear_two a b (by omega)
  have hz1 : (a ++ ⟨#[44]⟩ : ByteArray).size ≤ 101 := by rw [ByteArray.size_append]; show a.size + 1 ≤ 101; omega
  have BK : Hid (0 ≤ n → n ≤ 7 → clearI (clearT n) = n) := fun p q => clear_back n p q
  have IX : Hid (∀ W, Below w.heap.size w W → Calls Tryd.prog 13 #[.string a] W fun e w' => e = .returned (.int .i64 (clearI a)) ∧ Below W.heap.size W w') := IR.out a
  have IY : Hid (∀ W, Below w.heap.size w W → Calls Tryd.prog 13 #[.string b] W fun e w' => e = .returned (.int .i64 (clearI b)) ∧ Below W.heap.size W w') := IR.out b
  have IZ : Hid (∀ W, Below w.heap.size w W → Calls Tryd.prog 13 #[.string (a ++ ⟨#[44]⟩ ++ b)] W fun e w' => e = .returned (.int .i64 (clearI (a ++ ⟨#[44]⟩ ++ b))) ∧ Below W.heap.size W w') := IR.out _
  have IN : Hid (∀ W, Below w.heap.size w W → Calls Tryd.prog 13 #[.string (clearT n)] W fun e w' => e = .returned (.int .i64 (clearI (clearT n))) ∧ Below W.heap.size W w') := IR.out _
  have SX : Hid (∀ W, Calls Tryd.prog 15 #[.string a] W fun e w' => e = .returned (.int .i64 (clearI a)) ∧ Below W.heap.size W w') := SR.out a
  have SY : Hid (∀ W, Calls Tryd.prog 15 #[.string b] W fun e w' => e = .returned (.int .i64 (clearI b)) ∧ Below W.heap.size W w') := SR.out b
  have SN : Hid (∀ W, Calls Tryd.prog 14 #[.int .i64 n] W fun e w' => e = .returned (.string (clearT n)) ∧ Below W.heap.size W w') := ST.out n
  clear IR SR ST IT
  generalize clearI (a ++ ⟨#[44]⟩ ++ b) = z at *
  generalize clearI a = x at *
  generalize clearI b = y at *
  generalize clearI (clearT n) = m at *
  generalize clearT n = tn at *
  go_wp2_with fail
  refine (IX.out _ B4.out).mono ?_
  rintro e w5 ⟨rfl, hb5⟩
  have B5 : Hid (Below w.heap.size w w5) := B4.out.trans (hb5.mono B4.out.size)
  clear hb5 B4 IX
  go_wp2_with fail
  refine (IY.out _ B5.out).mono ?_
  rintro e w6 ⟨rfl, hb6⟩
  have B6 : Hid (Below w.heap.size w w6) := B5.out.trans (hb6.mono B5.out.size)
  clear hb6 B5 IY
  go_wp2_with fail
  refine (IZ.out _ B6.out).mono ?_
  rintro e w7 ⟨rfl, hb7⟩
  have B7 : Hid (Below w.heap.size w w7) := B6.out.trans (hb7.mono B6.out.size)
  clear hb7 B6 IZ
  go_wp2_with fail
  refine (SN.out _).mono ?_
  rintro e w8 ⟨rfl, hb8⟩
  have B8 : Hid (Below w.heap.size w w8) := B7.out.trans (hb8.mono B7.out.size)
  clear hb8 B7 SN
  go_wp2_with fail
  refine (SX.out _).mono ?_
  rintro e w9 ⟨rfl, hb9⟩
  have B9 : Hid (Below w.heap.size w w9) := B8.out.trans (hb9.mono B8.out.size)
  clear hb9 B8 SX
  go_wp2_with fail
  refine (SY.out _).mono ?_
  rintro e w10 ⟨rfl, hb10⟩
  have B10 : Hid (Below w.heap.size w w10) := B9.out.trans (hb10.mono B9.out.size)
  clear hb10 B9 SY
  by_cases hn : 0 ≤ n ∧ n ≤ 7
  · have p0 : decide ((0 : Int) ≤ n) = true := by rw [decide_eq_true_iff]; exact hn.1
    have p7 : decide (n ≤ (7 : Int)) = true := by rw [decide_eq_true_iff]; exact hn.2
    have hm : m = n := BK.out hn.1 hn.2
    subst hm
    go_wp2_with fail
    refine (IN.out _ B10.out).mono ?_
    rintro e w11 ⟨rfl, hb11⟩
    go_wp2
    go_ret
    exact ⟨rfl, B10.out.trans (hb11.mono B10.out.size)⟩
  · by_cases h : 0 ≤ n
    · have p0 : decide ((0 : Int) ≤ n) = true := by rw [decide_eq_true_iff]; exact h
      have p7 : decide (n ≤ (7 : Int)) = false := by rw [decide_eq_false_iff_not]; omega
      go_wp2
      go_ret
      exact ⟨rfl, B10.out⟩
    · have p0 : decide ((0 : Int) ≤ n) = false := by rw [decide_eq_false_iff_not]; exact h
      go_wp2
      go_ret
      exact ⟨rfl, B10.out⟩
end Go.Proofs.YthcpmbolnmlohaaDoor

/- The lifting of a law's walk to a row that lists package-level variables, the world's shape kept; what the shape and the list give a walk. -/
namespace Go.Proofs.YthcpmbolnmlohaaDoor
open Go.RowKit

theorem Ld.own : ownKnob Tryd.prog.godebug = none := by kernel_rfl
theorem Ld.laidOut : laidOutB Tryd.prog = true := by kernel_rfl
set_option maxRecDepth 10000 in
theorem lift_laid {H : Type} {enc : TypeId × Value → H} {os : Os} {f : FuncId} {fn : Func} {s : ChangeSpec} {X : World → Prop} (hX : ∀ (w w' : World), w.heap = w'.heap → X w → X w')
    (started : os.Started) (noInit : Tryd.prog.inits.idxOf? f = none) (hfn : Tryd.prog.funcs[f]? = some fn)
    (start : ∃ (w : World) (tape : Tape) (i : Input), w.os = os ∧ (w.forCall tape i).Shaped Tryd.prog ∧ i.vars = [] ∧ Input.okWide Tryd.prog (w.forCall tape i) .any w.heap.size f i ∧
      ((s.pre enc Tryd.prog fn [] false (w.forCall tape i).memory i.args ∧ X (w.forCall tape i).memory) ∧ sizedMet enc Tryd.prog fn (OpenSpec.ofChange s) false (w.forCall tape i).memory i.args) ∧ Assume.holds {} Tryd.prog (lone (Frame.enter Tryd.prog f i.args .normal) [] (w.forCall tape i)))
    (walk : ∀ (W : World) (base : Nat) (args : Array Value) (ds gs : List (DataW H)) (before : List MemPlace),
      (∀ (j : Nat) t v, fn.params[j]? = some t → args[j]? = some v → Value.okWide Tryd.prog W .any base t v) →
      DataW.Whole enc Tryd.prog fn.params.toList s.vars false W args.toList ds gs before → X W → W.ShapedOpen Tryd.prog →
      Calls Tryd.prog f args W fun e W' => ∃ v, e = .returned v ∧ s.post enc Tryd.prog fn false true false false W args v W') :
    ReturnsInHanded {} Tryd.checked os f .any (fun w args => (s.pre enc Tryd.prog fn [] false w args ∧ X w) ∧ sizedMet enc Tryd.prog fn (OpenSpec.ofChange s) false w args) (s.post enc Tryd.prog fn false true false false) := by
  refine returnsInHanded_of_calls (C := Tryd.checked) Ld.own started noInit start ?_
  intro w tape i _ hsh _ hok hpre _
  obtain ⟨_, _, _, fn2, hfn2, _, _, _, _, hval⟩ := hok
  obtain rfl : fn2 = fn := Option.some.inj (hfn2.symm.trans hfn)
  obtain ⟨⟨⟨ds, gs, before, hw, _⟩, hx⟩, _⟩ := hpre
  have hw2 := DataW.Whole.of_heap (w' := w.forCall tape i) (by rfl) hw
  refine (walk (w.forCall tape i) w.heap.size i.args ds gs before hval hw2 (hX _ _ (by rfl) hx) hsh).mono fun e W' ⟨v, he, hp⟩ => ?_
  subst he
  exact ChangeSpec.post_blind hp
set_option maxRecDepth 10000 in
theorem maxI_of_shape {W : World} (h : W.ShapedOpen Tryd.prog) : MaxI W := Tryd.lays146.s1_3 W h
set_option maxRecDepth 10000 in
theorem Ld.pow : (Rows.laid_internal_strconv_uint64pow10 : DataW Unit) = Lib.tabData .u64 Lib.pow10Tab := by kernel_rfl
set_option maxRecDepth 10000 in
theorem pow_of_laid {W : World} {l : List (String × DataW Unit)} {a b : String × DataW Unit} {r : List (String × DataW Unit)} (hh : (l.all fun x => x.2.handleName?.isNone) = true)
    (hl : l = a :: b :: ("internal/strconv.uint64pow10", Rows.laid_internal_strconv_uint64pow10) :: r) (h : laidMetH Tryd.prog l W) : Lib.TabIs Tryd.prog W "internal/strconv.uint64pow10" .u64 Lib.pow10Tab := by
  rw [MakeChecks.laidMetH_plain _ _ _ hh, hl, Ld.pow] at h
  exact Lib.tabIs_of_head (g := 1) (t := 122) (e := 74) (n := 20) (by kernel_rfl) (by kernel_rfl) Tryd.underlying122 Tryd.underlying74 (by kernel_rfl) (by kernel_rfl) h.tail.tail
end Go.Proofs.YthcpmbolnmlohaaDoor

/- What a row's list of package-level variables gives a walk: the program's words of kinds, the library's two errors; a listed variable that reads behind the call as before it. -/
namespace Go.Proofs.YthcpmbolnmlohaaDoor
open Go.RowKit Go.ChangeShapes

theorem plain_of {l : List (String × DataW Unit)} {W : World} (hh : (l.all fun x => x.2.handleName?.isNone) = true) (h : laidMetH Tryd.prog l W) : laidMet Tryd.prog l W := by
  rw [MakeChecks.laidMetH_plain _ _ _ hh] at h; exact h
/-- a listed variable of an interface type holds a value of some type -/
theorem iface_of_met {P : Program} {W : World} {n nm : String} {d : DataW Unit} {r : List (String × DataW Unit)} {g : Nat} {ti : TypeId} {ms : Array (String × TypeId)} (h : laidMet P ((n, .iface nm d) :: r) W)
    (hg : P.globalNamed n = some g) (ht : (P.globals[g]?).map (·.type) = some ti) (hi : P.underlying ti = some (.interface ms)) : ∃ u v, W.cell? ⟨g, 0, none⟩ = some (.iface u v) := by
  obtain ⟨ps, ⟨g0, t0, cs0, f0, p0, q0, hg0, ht0, hv0, hd0, _, _⟩, _, _⟩ := h
  obtain rfl := Option.some.inj (hg.symm.trans hg0)
  obtain rfl := Option.some.inj (ht.symm.trans ht0)
  obtain ⟨_, u, v, hc, _, _⟩ := iface_of_trod hi hd0
  refine ⟨u, v, ?_⟩
  rw [World.var?_cell hg0 hv0 0, ← Array.getElem?_toList, hc]
  rfl
theorem text_lit {s : ByteArray} {l : List UInt8} (h : s.data.toList = l) : s = ⟨l.toArray⟩ := by
  subst h; rfl
set_option maxRecDepth 10000 in
theorem kind_of_met {W : World} {r : List (String × DataW Unit)} (h : laidMet Tryd.prog (("loop.example/g00551/impl.kindWords", Rows.laid_loop_example_g00551_impl_kindWords) :: r) W) : KindI W := by
  obtain ⟨ps, ⟨g0, t0, cs0, f0, p0, q0, hg0, ht0, hv0, hd0, _, _⟩, _, _⟩ := h
  have hg : Tryd.prog.globalNamed "loop.example/g00551/impl.kindWords" = some 0 := by kernel_rfl
  have ht : (Tryd.prog.globals[0]?).map (·.type) = some 53 := by kernel_rfl
  obtain rfl := Option.some.inj (hg.symm.trans hg0)
  obtain rfl := Option.some.inj (ht.symm.trans ht0)
  obtain ⟨_, _, _, _, hlen, _, _⟩ := DataW.trod_array Tryd.underlying53 hd0
  have hl : cs0.toList.length = 3 := hlen.trans (by kernel_rfl)
  obtain ⟨l0⟩ := cs0
  match l0, hl with
  | [c0, c1, c2], _ =>
    obtain ⟨y0, y1, y2, n, e, h0, h1, h2⟩ := trod_array3 Tryd.underlying53 (by kernel_rfl) hd0
    obtain ⟨s0, a0, rfl, _⟩ := DataW.trod_string Tryd.underlying9 h0
    obtain ⟨s1, a1, rfl, _⟩ := DataW.trod_string Tryd.underlying9 h1
    obtain ⟨s2, a2, rfl, _⟩ := DataW.trod_string Tryd.underlying9 h2
    simp only [List.cons.injEq, and_true] at a0 a1 a2
    subst a0 a1 a2
    simp only [Rows.laid_loop_example_g00551_impl_kindWords, Prod.mk.injEq, DataW.agg.injEq, List.cons.injEq, DataW.lit.injEq, Lit.string.injEq, and_true] at e
    obtain ⟨⟨e0, e1, e2⟩, _⟩ := e
    refine ⟨?_, ?_, ?_⟩
    · rw [World.var?_cell hg0 hv0 0, text_lit e0.symm]; rfl
    · rw [World.var?_cell hg0 hv0 1, text_lit e1.symm]; rfl
    · rw [World.var?_cell hg0 hv0 2, text_lit e2.symm]; rfl
/-- one listed variable reads on -/
theorem vars_on {H : Type} {enc : TypeId × Value → H} {n : String} {g : Nat} {t : TypeId} {cs : Array Value} {fuel : Nat} {d : DataW H} {p : List MemPlace} {W W' : World}
    (hr : Tryd.prog.readableRec t = true) (hrow : t < Tryd.prog.types.size) (hg : Tryd.prog.globalNamed n = some g) (ht : (Tryd.prog.globals[g]?).map (·.type) = some t) (hv : W.var? Tryd.prog n = some cs) (hlt : g < W.heap.size)
    (hd : DataW.trod enc Tryd.prog W 0 (fun _ => true) true fuel t cs.toList = some (d, p)) (hb : Below W.heap.size W W') :
    DataW.TrodVars enc Tryd.prog W' (fun b => decide (b < W.heap.size)) [n] [d] (MemPlace.row ⟨g, 0, none⟩ cs.size ++ p) := by
  have k : DataW.Trod enc Tryd.prog W 0 (fun _ => true) true t (.agg cs) d p := ⟨fuel, hd⟩
  obtain ⟨f', hd'⟩ := Below.trod Ld.laidOut hr hrow k hb (DataW.trod_lt fuel _ _ _ hd)
  exact trodVars_mk1 hg ht (var?_below hb hg hlt hv) hd'
theorem var_lt {P : Program} {W : World} {n : String} {g : Nat} {cs : Array Value} (hg : P.globalNamed n = some g) (hv : W.var? P n = some cs) : g < W.heap.size := by
  unfold World.var? at hv
  simp only [hg, Option.bind_some] at hv
  by_cases h : g < W.heap.size
  · exact h
  · rw [Array.getElem?_eq_none (by omega)] at hv; simp at hv
end Go.Proofs.YthcpmbolnmlohaaDoor
