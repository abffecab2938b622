/- The walk of the specification's l03Tail. -/
import Derived.Test.YtddlnbmkknbegaaDoorStrsIn
namespace Go.Proofs.YtddlnbmkknbegaaDoor
open Go.RowKit

/-- j texts from place d on, with a point between -/
def tailN (f : Nat → ByteArray) (d : Nat) : Nat → ByteArray
  | 0 => ⟨#[]⟩
  | j + 1 => if (tailN f d j).toList.isEmpty = true then tailN f d j ++ f (d + j) else tailN f d j ++ ⟨#[46]⟩ ++ f (d + j)
theorem tailN_size {f : Nat → ByteArray} {d : Nat} (N : Nat) : ∀ j, (∀ i, i < j → (f (d + i)).size ≤ N) → (tailN f d j).size ≤ (N + 1) * j
  | 0, _ => Nat.zero_le _
  | j + 1, h => by
    have ih := tailN_size N j (fun i hi => h i (by omega))
    have hj := h j (by omega)
    have e : (⟨#[46]⟩ : ByteArray).size = 1 := rfl
    rw [tailN, Nat.mul_succ]
    split
    · rw [ByteArray.size_append]; omega
    · rw [ByteArray.size_append, ByteArray.size_append, e]; omega

set_option maxRecDepth 10000 in
set_option maxHeartbeats 1000000 in
theorem specTail_any (v : Value) (d n B : Nat) (f : Nat → ByteArray) (w : World) (hs : SliceS w B v (d + n) f) (hn : d + n ≤ 101) (hf : ∀ i, i < d + n → (f i).size ≤ 100) :
    Calls Tryd.prog 69 #[v, .int .i64 n] w fun e w' => e = .returned (.string (tailN f d n)) ∧ w' = w := by
  obtain ⟨p, cap, rfl, hg⟩ := hs
  have HG : Hid (0 < d + n → ∃ g, p = some ⟨g, 0, none⟩ ∧ B ≤ g ∧ g < w.heap.size ∧ ∀ j, j < d + n → w.cell? ⟨g, j, none⟩ = some (.string (f j)) ∧ w.frozen? ⟨g, j, none⟩ = false) := hg
  have HF : Hid (∀ i, i < d + n → (f i).size ≤ 100) := hf
  clear hg hf
  have hd : (d : Int) + (n : Int) - (n : Int) = d := by omega
  go_enter Tryd.func69, Tryd.ntmps69
  go_wp2
  go_loop [5, 6] (fun t i => ∃ j : Nat, j ≤ n ∧ i = .int .i64 ((d + j : Nat) : Int) ∧ t = .string (tailN f d j)) (fun _ i => d + n - (intOf i).toNat)
  case atStart => exact ⟨0, Nat.zero_le _, by simp, rfl⟩
  case round =>
    obtain ⟨j, hj, rfl, rfl⟩ := hrel
    by_cases hlt : j < n
    · obtain ⟨g, rfl, -, -, hc⟩ := HG.out (by omega)
      have c1 := (hc (d + j) (by omega)).1
      have hz := HF.out (d + j) (by omega)
      have hz2 := tailN_size (f := f) (d := d) 100 j (fun i hi => HF.out (d + i) (by omega))
      have hz3 : (tailN f d j).size ≤ 10201 := by
        have : (100 + 1) * j ≤ 101 * 101 := Nat.mul_le_mul_left 101 (by omega)
        omega
      have k0 : (0 : Int) ≤ (d : Int) + j := by omega
      have k1 : (d : Int) + j < (d : Int) + n := by omega
      have HN : Hid (tailN f d (j + 1) = if (tailN f d j).toList.isEmpty = true then tailN f d j ++ f (d + j) else tailN f d j ++ ⟨#[46]⟩ ++ f (d + j)) := rfl
      have e1 : (⟨#[46]⟩ : ByteArray).size = 1 := rfl
      have hz4 : (tailN f d j ++ (⟨#[46]⟩ : ByteArray)).size ≤ 10202 := by rw [ByteArray.size_append]; omega
      clear hc hz2
      generalize tailN f d j = t at *
      generalize f (d + j) = x at *
      cases he : t.toList.isEmpty with
      | true =>
        rw [he, if_pos rfl] at HN
        go_wp2
        go_round
        case rel => exact ⟨j + 1, by omega, by go_num, by rw [HN.out]⟩
        case measure => simp [intOf]; omega
      | false =>
        rw [he, if_neg (by decide)] at HN
        go_wp2
        go_round
        case rel => exact ⟨j + 1, by omega, by go_num, by rw [HN.out]⟩
        case measure => simp [intOf]; omega
    · obtain rfl : j = n := by omega
      go_wp2
      go_ret
      exact ⟨rfl, rfl⟩
end Go.Proofs.YtddlnbmkknbegaaDoor
