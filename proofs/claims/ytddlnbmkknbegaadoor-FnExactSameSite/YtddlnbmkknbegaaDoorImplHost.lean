/- The walk of the program's HostRight. -/
import Derived.Test.YtddlnbmkknbegaaDoorImplSplit
import Derived.Test.YtddlnbmkknbegaaDoorImplLabel
namespace Go.Proofs.YtddlnbmkknbegaaDoor
open Go.RowKit

theorem mem_le_sum : ∀ {l : List Nat} {x : Nat}, x ∈ l → x ≤ l.sum
  | [], _, h => by cases h
  | a :: l, x, h => by
    rw [List.sum_cons]
    cases h with
    | head => omega
    | tail _ h => have := mem_le_sum h; omega
theorem piece_le {s x : ByteArray} (hx : x ∈ splitB s 46) : x.size ≤ s.size := by
  have h1 : x.data.toList ∈ cutL 46 s.data.toList := by rw [← splitB_cut]; exact List.mem_map.2 ⟨x, hx, rfl⟩
  have h2 := cutL_sum 46 s.data.toList
  have h3 : (x.data.toList.length + 1) ≤ ((cutL 46 s.data.toList).map (fun p => p.length + 1)).sum := mem_le_sum (List.mem_map.2 ⟨_, h1, rfl⟩)
  rw [h2, ← Lib.size_eq, ← Lib.size_eq] at h3
  omega
set_option maxRecDepth 10000 in
set_option maxHeartbeats 400000 in
theorem hostRight_any (s : ByteArray) (w : World) (hG : MaxI w) (hs : s.size ≤ 1048576) :
    Calls Tryd.prog 45 #[.string s] w fun e w' => e = .returned (.bool (hostB s)) ∧ Below w.heap.size w w' := by
  have HC : Hid (∀ W, MaxI W → Calls Tryd.prog 50 #[.string s, .string ⟨#[46]⟩] W fun e w' => e = .returned (.slice (some ⟨W.heap.size, 0, none⟩) (splitB s 46).length (splitB s 46).length) ∧ w' = W.alloc (.cells (strCells (splitB s 46)).toArray 9)) := fun W h => split_call s W h (by omega)
  have HA : Hid ((∀ k (h : k < (splitB s 46).length), labelB ((splitB s 46)[k]) = false → hostB s = false) ∧ ((splitB s 46).length ≤ 6 → (∀ k (h : k < (splitB s 46).length), labelB ((splitB s 46)[k]) = true) → hostB s = true) ∧ (6 < (splitB s 46).length → hostB s = false)) :=
    ⟨fun k h hl => hostB_at k h hl, fun h1 h2 => hostB_six h1 h2, fun h => hostB_many h⟩
  have hn := splitB_len s 46
  have HZ : Hid (∀ x ∈ splitB s 46, x.size ≤ s.size) := fun x hx => piece_le hx
  generalize splitB s 46 = L at *
  have HG : Hid (MaxI w) := hG
  clear hG
  go_enter Tryd.func45, Tryd.ntmps45
  go_wp2_with fail
  refine (HC.out _ HG.out).mono ?_
  rintro e w1 ⟨rfl, rfl⟩
  by_cases h6 : 6 < L.length
  · go_wp2
    go_ret
    exact ⟨ret_bool (HA.out.2.2 h6).symm, (Below.refl _ _).alloc (Nat.le_refl _) _⟩
  have q6 : decide ((6 : Int) < (L.length : Int)) = false := by rw [decide_eq_false_iff_not]; omega
  have hcell : ∀ k (h : k < L.length), (w.alloc (.cells (strCells L).toArray 9)).cell? ⟨w.heap.size, k, none⟩ = some (.string L[k]) := by
    intro k hk
    simp [strCells, hk]
  have hb : Below w.heap.size w (w.alloc (.cells (strCells L).toArray 9)) := (Below.refl _ _).alloc (Nat.le_refl _) _
  have hz1 : w.heap.size < (w.alloc (.cells (strCells L).toArray 9)).heap.size := by simp
  generalize w.alloc (.cells (strCells L).toArray 9) = w1 at *
  go_wp2
  go_loopw [13] (fun i wr => ∃ k : Nat, k ≤ L.length ∧ i = .int .i64 k ∧ Below w1.heap.size w1 wr ∧ Hid (∀ j (h : j < L.length), j < k → labelB L[j] = true)) (fun i _ => L.length - (intOf i).toNat)
  case atStart => exact ⟨0, by omega, rfl, Below.refl _ _, fun j _ hj => absurd hj (by omega)⟩
  case round =>
    obtain ⟨k, hk, rfl, hb2, HR⟩ := hrel
    by_cases hlt : k < L.length
    · have hc1 := hcell k hlt
      have hck : wr.cell? ⟨w.heap.size, k, none⟩ = some (.string L[k]) := by rw [(bcell hb2).1 _ _ hz1]; exact hc1
      have HL : Hid (∀ W, Calls Tryd.prog 71 #[.string L[k]] W fun e w' => e = .returned (.bool (labelB L[k])) ∧ Below W.heap.size W w') := fun W => labelRight_any L[k] W (by have := HZ.out L[k] (List.getElem_mem hlt); omega)
      have HB2 : Hid (Below w1.heap.size w1 wr) := hb2
      have hz2 := hb2.size
      cases hlab : labelB L[k] with
      | true =>
        have HL2 : Hid (labelB L[k] = true) := hlab
        rw [hlab] at HL
        clear hlab hcell hc1 hb2
        generalize hx : L[k] = x at *
        have HX : Hid (L[k] = x) := hx
        clear hx
        go_wp2_with (go_at_call 71; refine (HL.out _).mono ?_; rintro e w2 ⟨rfl, hb3⟩)
        go_roundw
        case rel =>
          refine ⟨k + 1, by omega, by go_num, HB2.out.trans (hb3.mono hz2), ?_⟩
          intro j hj hjk
          by_cases e : j = k
          · subst e; rw [HX.out]; exact HL2.out
          · exact HR.out j hj (by omega)
        case measure => simp [intOf]; omega
      | false =>
        have HF : Hid (hostB s = false) := HA.out.1 k hlt hlab
        rw [hlab] at HL
        clear hlab hcell hc1 hb2
        generalize L[k] = x at *
        go_wp2_with (go_at_call 71; refine (HL.out _).mono ?_; rintro e w2 ⟨rfl, hb3⟩)
        go_ret
        exact ⟨ret_bool HF.out.symm, hb.trans ((HB2.out.trans (hb3.mono hz2)).mono hb.size)⟩
    · have HF : Hid (hostB s = true) := HA.out.2.1 (by omega) (fun j hj => HR.out j hj (by omega))
      clear hcell
      go_wp2
      go_ret
      exact ⟨ret_bool HF.out.symm, hb.trans (hb2.mono hb.size)⟩
end Go.Proofs.YtddlnbmkknbegaaDoor
