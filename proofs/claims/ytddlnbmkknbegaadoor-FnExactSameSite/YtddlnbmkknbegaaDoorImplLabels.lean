/- The walk of the program's LabelsOf. -/
import Derived.Test.YtddlnbmkknbegaaDoorImplHost
import Derived.Test.YtddlnbmkknbegaaDoorLawLabelsOf
import Derived.Test.YtddlnbmkknbegaaDoorTogether
namespace Go.Proofs.YtddlnbmkknbegaaDoor
open Go.RowKit

theorem atL_get {L : List ByteArray} {k : Nat} (h : k < L.length) : atL L k = L[k] := by simp [atL, h]

set_option maxRecDepth 10000 in
set_option maxHeartbeats 400000 in
theorem labelsOf_cap (s : ByteArray) (w : World) (hG : MaxI w) (hs : s.size ≤ 1048576) :
    Calls Tryd.prog 55 #[.string s] w fun e w' => ∃ v, e = .returned v ∧ SliceS w' w.heap.size v (labelsL s).length (atL (labelsL s)) ∧ Below w.heap.size w w' ∧ ∃ p c, v = .slice p (labelsL s).length c ∧ (labelsL s).length ≤ c := by
  cases hh : hostB s with
  | false =>
    have HL : Hid (labelsL s = []) := by
      show _ = _
      rw [labelsL, if_neg (by simp [hh])]
    have HC : Hid (Calls Tryd.prog 45 #[.string s] w fun e w' => e = .returned (.bool false) ∧ Below w.heap.size w w') := by
      have := hostRight_any s w hG hs
      rw [hh] at this; exact this
    clear hh hG
    go_enter Tryd.func55, Tryd.ntmps55
    go_wp2_with (go_at_call 45; refine HC.out.mono ?_; rintro e w1 ⟨rfl, hb⟩)
    go_ret
    exact ⟨_, rfl, by rw [HL.out]; exact ⟨none, 0, rfl, fun h => absurd h (by simp)⟩, hb, by rw [HL.out]; exact ⟨_, _, rfl, Nat.le_refl _⟩⟩
  | true =>
    have HL : Hid (labelsL s = splitB s 46) := by
      show _ = _
      rw [labelsL, if_pos hh]
    have HC : Hid (Calls Tryd.prog 45 #[.string s] w fun e w' => e = .returned (.bool true) ∧ Below w.heap.size w w') := by
      have := hostRight_any s w hG hs
      rw [hh] at this; exact this
    have HS : Hid (∀ W, MaxI W → Calls Tryd.prog 50 #[.string s, .string ⟨#[46]⟩] W fun e w' => e = .returned (.slice (some ⟨W.heap.size, 0, none⟩) (splitB s 46).length (splitB s 46).length) ∧ w' = W.alloc (.cells (strCells (splitB s 46)).toArray 9)) := fun W h => split_call s W h (by omega)
    have hn := splitB_len s 46
    have hsz : s.size ≤ 100 := by
      by_cases hz : 100 < s.size
      · rw [hostB_size hz] at hh; cases hh
      · omega
    have HZ : Hid (∀ x ∈ splitB s 46, x.size ≤ 100) := fun x hx => Nat.le_trans (piece_le hx) hsz
    have HG : Hid (MaxI w) := hG
    clear hh hG
    rw [HL.out]
    clear HL
    generalize splitB s 46 = L at *
    go_enter Tryd.func55, Tryd.ntmps55
    go_wp2_with (go_at_call 45; refine HC.out.mono ?_; rintro e w1 ⟨rfl, hb⟩)
    refine (HS.out _ (HG.out.on hb)).mono ?_
    rintro e w2 ⟨rfl, rfl⟩
    have hcell : ∀ k (h : k < L.length), (w1.alloc (.cells (strCells L).toArray 9)).cell? ⟨w1.heap.size, k, none⟩ = some (.string L[k]) ∧ (w1.alloc (.cells (strCells L).toArray 9)).frozen? ⟨w1.heap.size, k, none⟩ = false := by
      intro k hk
      exact ⟨by simp [strCells, hk], by simp⟩
    have hb2 : Below w.heap.size w (w1.alloc (.cells (strCells L).toArray 9)) := hb.alloc hb.size _
    have hz1 : w1.heap.size < (w1.alloc (.cells (strCells L).toArray 9)).heap.size := by simp
    have hz0 := hb.size
    generalize w1.alloc (.cells (strCells L).toArray 9) = w2 at *
    clear hb
    have HC0 : Hid (∀ k (h : k < L.length), w2.cell? ⟨w1.heap.size, k, none⟩ = some (.string L[k]) ∧ w2.frozen? ⟨w1.heap.size, k, none⟩ = false) := hcell
    have HB0 : Hid (Below w.heap.size w w2) := hb2
    clear hcell hb2
    go_wp2
    go_loopw [13] (fun i wr => ∃ k : Nat, k ≤ L.length ∧ i = .int .i64 k ∧ w1.heap.size < wr.heap.size ∧ Hid (Below w.heap.size w wr) ∧ Hid (∀ j (h : j < L.length), wr.cell? ⟨w1.heap.size, j, none⟩ = some (.string L[j]) ∧ wr.frozen? ⟨w1.heap.size, j, none⟩ = false)) (fun i _ => L.length - (intOf i).toNat)
    case atStart => exact ⟨0, by omega, rfl, hz1, HB0, HC0⟩
    case round =>
      obtain ⟨k, hk, rfl, hzr, HB, HR⟩ := hrel
      by_cases hlt : k < L.length
      · have hck := (HR.out k hlt).1
        have HT : Hid (∀ W, Calls Tryd.prog 51 #[.string L[k], .string ⟨#[]⟩] W fun e w' => e = .returned (.string L[k]) ∧ Below W.heap.size W w') := fun W => together_empty L[k] W (by have := HZ.out L[k] (List.getElem_mem hlt); omega)
        generalize hx : L[k] = x at *
        have HX : Hid (L[k] = x) := hx
        clear hx
        go_wp2_with fail
        refine (HT.out _).mono ?_
        rintro e w3 ⟨rfl, hb3⟩
        have hz3 := hb3.size
        have c1 : w3.cell? ⟨w1.heap.size, k, none⟩ = some (.string x) := by rw [(bcell hb3).1 _ _ hzr]; exact hck
        have c2 : w3.frozen? ⟨w1.heap.size, k, none⟩ = false := by rw [(bcell hb3).2 _ _ hzr]; exact (HR.out k hlt).2
        have HR3 : Hid (∀ j (h : j < L.length), w3.cell? ⟨w1.heap.size, j, none⟩ = some (.string L[j]) ∧ w3.frozen? ⟨w1.heap.size, j, none⟩ = false) := fun j hj => ⟨by rw [(bcell hb3).1 _ _ hzr]; exact (HR.out j hj).1, by rw [(bcell hb3).2 _ _ hzr]; exact (HR.out j hj).2⟩
        have HB3 : Hid (Below w.heap.size w w3) := HB.out.trans (hb3.mono (by omega))
        clear hb3 hck
        go_wp2
        go_roundw
        case rel =>
          refine ⟨k + 1, by omega, by go_num, ?_, ?_, ?_⟩
          · simp [World.setCell]; omega
          · exact HB3.out.setCell (by simpa using hz0) _
          · intro j hj
            by_cases e : j = k
            · subst e
              rw [HX.out]
              exact ⟨World.cell?_setCell_same _ _ _ c1, by rw [World.frozen?_setCell]; exact c2⟩
            · rw [World.cell?_setCell_other _ _ _ _ (by intro h; injection h with _ h; exact e h.symm), World.frozen?_setCell]
              exact HR3.out j hj
        case measure => simp [intOf]; omega
      · go_wp2
        go_ret
        exact ⟨_, rfl, ⟨_, _, rfl, fun _ => ⟨w1.heap.size, rfl, hz0, hzr, fun j hj => by rw [atL_get hj]; exact HR.out j hj⟩⟩, HB.out, _, _, rfl, Nat.le_refl _⟩
theorem labelsOf_any (s : ByteArray) (w : World) (hG : MaxI w) (hs : s.size ≤ 1048576) :
    Calls Tryd.prog 55 #[.string s] w fun e w' => ∃ v, e = .returned v ∧ SliceS w' w.heap.size v (labelsL s).length (atL (labelsL s)) ∧ Below w.heap.size w w' :=
  (labelsOf_cap s w hG hs).mono fun _ _ ⟨v, he, h1, h2, _⟩ => ⟨v, he, h1, h2⟩
end Go.Proofs.YtddlnbmkknbegaaDoor
