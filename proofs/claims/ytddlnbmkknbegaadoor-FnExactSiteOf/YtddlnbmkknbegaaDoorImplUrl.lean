/- The walks of the program's pathRight, ownPort, placeRight and UrlRight. -/
import Derived.Test.YtddlnbmkknbegaaDoorImplHost
import Derived.Test.YtddlnbmkknbegaaDoorSpecUrl
namespace Go.Proofs.YtddlnbmkknbegaaDoor
open Go.RowKit

set_option maxRecDepth 10000 in
set_option maxHeartbeats 400000 in
theorem pathRight_any (t : ByteArray) (w : World) :
    Calls Tryd.prog 64 #[.string t] w fun e w' => e = .returned (.bool (pathB t)) ∧ Below w.heap.size w w' := by
  by_cases h1 : t.size < 1
  · have q1 : ((t.size : Int) == 0) = true := by rw [beq_iff_eq]; omega
    go_enter Tryd.func64, Tryd.ntmps64
    go_wp2
    go_ret
    exact ⟨ret_bool (pathB_size (.inl h1)).symm, Below.refl _ _⟩
  have q1 : ((t.size : Int) == 0) = false := by rw [beq_eq_false_iff_ne]; omega
  by_cases h2 : 40 < t.size
  · go_enter Tryd.func64, Tryd.ntmps64
    go_wp2
    go_ret
    exact ⟨ret_bool (pathB_size (.inr h2)).symm, Below.refl _ _⟩
  have q2 : decide ((40 : Int) < (t.size : Int)) = false := by rw [decide_eq_false_iff_not]; omega
  have hp : 0 < t.size := by omega
  by_cases h3 : t[0].toNat = 47
  case neg =>
    have q3 : ((t[0].toNat : Int) != 47) = true := by rw [bne_iff_ne]; omega
    have H3 : Hid (¬ t[0].toNat = 47) := h3
    clear h3
    go_enter Tryd.func64, Tryd.ntmps64
    go_wp2
    go_ret
    exact ⟨ret_bool (pathB_first hp H3.out).symm, Below.refl _ _⟩
  have q3 : ((t[0].toNat : Int) != 47) = false := by rw [bne_eq_false_iff_eq]; omega
  have H3 : Hid (t[0].toNat = 47) := h3
  clear h3
  go_enter Tryd.func64, Tryd.ntmps64
  go_wp2
  go_loopw [4] (fun _ wr => ∃ k : Nat, k ≤ t.size ∧ wr = w.iter t k ∧ Hid (∀ i (h : i < t.size), i < k → pathC t[i].toNat = true)) (fun _ wr => t.size - wr.iterPos w.heap.size)
  case atStart => exact ⟨0, Nat.zero_le _, rfl, fun i _ hi => absurd hi (by omega)⟩
  case round =>
    obtain ⟨k, hk, rfl, HR⟩ := hrel
    by_cases hlt : k < t.size
    · by_cases ha : t[k].toNat < 128
      · have hnx : ∀ ty, (Instr.next (.pointer (some ⟨w.heap.size, 0, none⟩)) true ty).run Tryd.prog (w.iter t k) = _ := fun ty => run_next_ascii w t k ty hlt ha
        by_cases d1 : t[k].toNat < 33
        · go_wp2
          go_ret
          exact ⟨ret_bool (pathB_at k hlt (pathC_no (by omega))).symm, (Below.refl _ _).alloc (Nat.le_refl _) _⟩
        have b1 : decide ((t[k].toNat : Int) < 33) = false := by rw [decide_eq_false_iff_not]; omega
        by_cases d2 : 126 < t[k].toNat
        · go_wp2
          go_ret
          exact ⟨ret_bool (pathB_at k hlt (pathC_no (by omega))).symm, (Below.refl _ _).alloc (Nat.le_refl _) _⟩
        have b2 : decide ((126 : Int) < (t[k].toNat : Int)) = false := by rw [decide_eq_false_iff_not]; omega
        by_cases d3 : t[k].toNat = 63
        · have b3 : ((t[k].toNat : Int) == 63) = true := by rw [beq_iff_eq]; omega
          have D3 : Hid (t[k].toNat = 63) := d3
          clear d3
          go_wp2
          go_ret
          exact ⟨ret_bool (pathB_at k hlt (pathC_no (by have := D3.out; omega))).symm, (Below.refl _ _).alloc (Nat.le_refl _) _⟩
        have b3 : ((t[k].toNat : Int) == 63) = false := by rw [beq_eq_false_iff_ne]; omega
        by_cases d4 : t[k].toNat = 35
        · have b4 : ((t[k].toNat : Int) == 35) = true := by rw [beq_iff_eq]; omega
          have D4 : Hid (t[k].toNat = 35) := d4
          clear d4
          go_wp2
          go_ret
          exact ⟨ret_bool (pathB_at k hlt (pathC_no (by have := D4.out; omega))).symm, (Below.refl _ _).alloc (Nat.le_refl _) _⟩
        have b4 : ((t[k].toNat : Int) == 35) = false := by rw [beq_eq_false_iff_ne]; omega
        by_cases d5 : t[k].toNat = 59
        · have b5 : ((t[k].toNat : Int) == 59) = true := by rw [beq_iff_eq]; omega
          have D5 : Hid (t[k].toNat = 59) := d5
          clear d5
          go_wp2
          go_ret
          exact ⟨ret_bool (pathB_at k hlt (pathC_no (by have := D5.out; omega))).symm, (Below.refl _ _).alloc (Nat.le_refl _) _⟩
        have b5 : ((t[k].toNat : Int) == 59) = false := by rw [beq_eq_false_iff_ne]; omega
        have HC : Hid (pathC t[k].toNat = true) := pathC_yes (by omega)
        clear d3 d4 d5
        go_wp2
        go_roundw
        case rel => exact ⟨k + 1, by omega, rfl, all_succ HR.out hlt HC.out⟩
        case measure => simp; omega
      · have hnx : ∀ ty, (Instr.next (.pointer (some ⟨w.heap.size, 0, none⟩)) true ty).run Tryd.prog (w.iter t k) = _ := fun ty => run_next_any w t k ty hlt
        have hd := (decode_high t k hlt (by omega)).1
        have HK : Hid (pathB t = false) := pathB_at k hlt (pathC_no (by omega))
        generalize Utf8.decode t k = d at *
        obtain ⟨r, n⟩ := d
        have hd2 : 128 ≤ r := hd
        have b1 : decide ((r : Int) < 33) = false := by rw [decide_eq_false_iff_not]; omega
        have b2 : decide ((126 : Int) < (r : Int)) = true := by rw [decide_eq_true_iff]; omega
        clear hd
        go_wp2
        go_ret
        exact ⟨ret_bool HK.out.symm, (Below.refl _ _).alloc (Nat.le_refl _) _⟩
    · have hnx : ∀ ty, (Instr.next (.pointer (some ⟨w.heap.size, 0, none⟩)) true ty).run Tryd.prog (w.iter t k) = _ := fun ty => run_next_end w t k ty hlt
      go_wp2
      go_ret
      exact ⟨ret_bool (pathB_true (by omega) (by omega) (fun _ => H3.out) (fun i h => HR.out i h (by omega))).symm, (Below.refl _ _).alloc (Nat.le_refl _) _⟩

/-- the port of a scheme, 0 of no scheme -/
def ownP (t : ByteArray) : Int := if (t.toList == [104, 116, 116, 112]) = true then 80 else if (t.toList == [104, 116, 116, 112, 115]) = true then 443 else 0
theorem ownP_ne (t : ByteArray) : (ownP t != 0) = schemeB t := by
  unfold ownP schemeB
  cases t.toList == [104, 116, 116, 112] <;> cases t.toList == [104, 116, 116, 112, 115] <;> rfl
theorem ownP_usual {t : ByteArray} (h : schemeB t = true) : ownP t = usualP t := by
  unfold ownP usualP schemeB at *
  cases h1 : t.toList == [104, 116, 116, 112] <;> cases h2 : t.toList == [104, 116, 116, 112, 115] <;> rw [h1, h2] at h
  · cases h
  · rfl
  · rfl
  · rw [beq_iff_eq] at h1 h2; rw [h1] at h2; cases h2

set_option maxRecDepth 10000 in
set_option maxHeartbeats 400000 in
theorem ownPort_any (t : ByteArray) (w : World) :
    Calls Tryd.prog 82 #[.string t] w fun e w' => e = .returned (.int .i64 (ownP t)) ∧ w' = w := by
  unfold ownP
  cases h : (t.toList == [104, 116, 116, 112]) with
  | true =>
    go_enter Tryd.func82, Tryd.ntmps82
    go_wp2
    go_ret
    exact ⟨rfl, rfl⟩
  | false =>
    cases h2 : (t.toList == [104, 116, 116, 112, 115]) with
    | true =>
      go_enter Tryd.func82, Tryd.ntmps82
      go_wp2
      go_ret
      exact ⟨rfl, rfl⟩
    | false =>
      go_enter Tryd.func82, Tryd.ntmps82
      go_wp2
      go_ret
      exact ⟨rfl, rfl⟩

set_option maxRecDepth 10000 in
set_option maxHeartbeats 400000 in
theorem placeRight_any (sc ho : ByteArray) (po : Int) (w : World) (hG : MaxI w) (hh : ho.size ≤ 1048576) :
    Calls Tryd.prog 63 #[.string sc, .string ho, .int .i64 po] w fun e w' => e = .returned (.bool (placeB sc ho po)) ∧ Below w.heap.size w w' := by
  have H1 := fun W => ownPort_any sc W
  have H2 := hostRight_any ho w hG hh
  have HP : Hid (placeB sc ho po = (schemeB sc && hostB ho && (decide (1 ≤ po) && decide (po ≤ 65535)))) := rfl
  have q1 := ownP_ne sc
  generalize schemeB sc = b1 at *
  generalize hostB ho = b2 at *
  generalize ownP sc = op at *
  have G1 : Hid (∀ W, Calls Tryd.prog 82 #[.string sc] W fun e w' => e = .returned (.int .i64 op) ∧ w' = W) := H1
  have G2 : Hid (Calls Tryd.prog 45 #[.string ho] w fun e w' => e = .returned (.bool b2) ∧ Below w.heap.size w w') := H2
  clear H1 H2 hG
  cases b1 with
  | false =>
    go_enter Tryd.func63, Tryd.ntmps63
    go_wp2_with (go_at_call 82; refine (G1.out _).mono ?_; rintro e w1 ⟨rfl, rfl⟩)
    go_ret
    exact ⟨ret_bool (by rw [HP.out]; rfl), Below.refl _ _⟩
  | true =>
    cases b2 with
    | false =>
      go_enter Tryd.func63, Tryd.ntmps63
      go_wp2_with (first | (go_at_call 82; refine (G1.out _).mono ?_; rintro e w1 ⟨rfl, rfl⟩) | (go_at_call 45; refine G2.out.mono ?_; rintro e w2 ⟨rfl, hb⟩))
      go_ret
      exact ⟨ret_bool (by rw [HP.out]; rfl), hb⟩
    | true =>
      by_cases h : 1 ≤ po
      · have q2 : decide (1 ≤ po) = true := by rw [decide_eq_true_iff]; exact h
        go_enter Tryd.func63, Tryd.ntmps63
        go_wp2_with (first | (go_at_call 82; refine (G1.out _).mono ?_; rintro e w1 ⟨rfl, rfl⟩) | (go_at_call 45; refine G2.out.mono ?_; rintro e w2 ⟨rfl, hb⟩))
        go_ret
        exact ⟨ret_bool (by rw [HP.out]; simp [h]), hb⟩
      · have q2 : decide (1 ≤ po) = false := by rw [decide_eq_false_iff_not]; exact h
        go_enter Tryd.func63, Tryd.ntmps63
        go_wp2_with (first | (go_at_call 82; refine (G1.out _).mono ?_; rintro e w1 ⟨rfl, rfl⟩) | (go_at_call 45; refine G2.out.mono ?_; rintro e w2 ⟨rfl, hb⟩))
        go_ret
        exact ⟨ret_bool (by rw [HP.out, q2]; rfl), hb⟩

set_option maxRecDepth 10000 in
set_option maxHeartbeats 400000 in
theorem urlRight_any (sc ho pa : ByteArray) (po : Int) (w : World) (hG : MaxI w) (hh : ho.size ≤ 1048576) :
    Calls Tryd.prog 38 #[urlV sc ho pa po] w fun e w' => e = .returned (.bool (urlB sc ho pa po)) ∧ Below w.heap.size w w' := by
  have H1 := fun W (h : MaxI W) => placeRight_any sc ho po W h hh
  have H2 := fun W => pathRight_any pa W
  have HP : Hid (urlB sc ho pa po = (placeB sc ho po && pathB pa)) := rfl
  have HG : Hid (∀ o, MaxI (w.alloc o)) := fun o => hG.on ((Below.refl _ _).alloc (Nat.le_refl _) _)
  generalize placeB sc ho po = b1 at *
  generalize pathB pa = b2 at *
  have G1 : Hid (∀ W, MaxI W → Calls Tryd.prog 63 #[.string sc, .string ho, .int .i64 po] W fun e w' => e = .returned (.bool b1) ∧ Below W.heap.size W w') := H1
  have G2 : Hid (∀ W, Calls Tryd.prog 64 #[.string pa] W fun e w' => e = .returned (.bool b2) ∧ Below W.heap.size W w') := H2
  clear H1 H2 hG
  unfold urlV
  cases b1 with
  | false =>
    go_enter Tryd.func38, Tryd.ntmps38
    go_wp2_with fail
    refine (G1.out _ (HG.out _)).mono ?_
    rintro e w1 ⟨rfl, hb⟩
    go_wp2
    go_ret
    exact ⟨ret_bool (by rw [HP.out]; rfl), ((Below.refl _ _).alloc (Nat.le_refl _) _).trans (hb.mono (by simp))⟩
  | true =>
    go_enter Tryd.func38, Tryd.ntmps38
    go_wp2_with fail
    refine (G1.out _ (HG.out _)).mono ?_
    rintro e w1 ⟨rfl, hb⟩
    have hc3 : w1.cell? ⟨w.heap.size, 3, none⟩ = some (.string pa) := by rw [(bcell hb).1 _ _ (by simp)]; simp
    have hz1 : w.heap.size < w1.heap.size := by have := hb.size; simp at this; omega
    go_wp2_with (go_at_call 64; refine (G2.out _).mono ?_; rintro e w2 ⟨rfl, hb2⟩)
    go_ret
    exact ⟨ret_bool (by rw [HP.out]; rfl), (((Below.refl _ _).alloc (Nat.le_refl _) _).trans (hb.mono (by simp))).trans (hb2.mono (by omega))⟩
end Go.Proofs.YtddlnbmkknbegaaDoor
