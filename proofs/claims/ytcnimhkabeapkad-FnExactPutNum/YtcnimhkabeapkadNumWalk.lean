/- The walks of PutNum. -/
import Derived.Test.YtcnimhkabeapkadNum
import Derived.Test.YtcnimhkabeapkadRow
namespace Go.Proofs.Ytcnimhkabeapkad
open Go.RowKit


theorem fold_any (n : Int) (w : World) (h1 : -9223372036854775808 ≤ n) (h2 : n ≤ 9223372036854775807) :
    Calls Try.prog 6 #[.int .i64 n] w fun e w' => e = .returned (.int .u64 (foldN n : Nat)) ∧ w' = w := by
  by_cases h : n < 0
  · go_enter Try.func6, Try.ntmps6
    go_wp2
    go_ret
    exact ⟨ret_int (by unfold foldN; rw [if_pos h]; omega), rfl⟩
  · go_enter Try.func6, Try.ntmps6
    go_wp2
    go_ret
    exact ⟨ret_int (by unfold foldN; rw [if_neg (by omega)]; omega), rfl⟩

theorem own_shape {w : World} {base n : Nat} {e : TypeId} {v : Value} {xs : List Value} (h : w.ownsRow base e 1 v (n + 1) xs) : ∃ g cap, v = .slice (some ⟨g, 0, none⟩) (n + 1) cap := by
  obtain ⟨_, ⟨_, h0⟩ | ⟨g, cap, _, hv, _⟩⟩ := h
  · omega
  · exact ⟨g, cap, hv⟩
theorem snoc_cells (l : List UInt8) (k : Nat) (h : k < 256) : Lib.byteCells l ++ [.int .u8 (k : Int)] = Lib.byteCells (l ++ [UInt8.ofNat k]) := by
  rw [byteCells_append, Lib.byteCells, Lib.byteCells, List.map_cons, byte_of_small h]; rfl
theorem row_own {w : World} {base g n cap : Nat} {e : TypeId} {l : List UInt8} (h : w.ownsRow base e 1 (.slice (some ⟨g, 0, none⟩) n cap) n (Lib.byteCells l)) : ∃ more, RowAt w g e (Lib.byteCells l ++ more) := by
  obtain ⟨hx, ⟨h1, _⟩ | ⟨g', cap', cur, hv, _, hg, _, _, _, ht⟩⟩ := h
  · cases h1
  · simp only [Value.slice.injEq, Option.some.injEq, Addr.mk.injEq] at hv
    obtain ⟨⟨rfl, _⟩, _, rfl⟩ := hv
    refine ⟨cur.toList.drop (n * 1), ?_⟩
    unfold RowAt
    rw [← ht, List.take_append_drop, hg]

set_option maxHeartbeats 400000 in
theorem specPutNum_any (n : Int) (w : World) (h1 : -9223372036854775808 ≤ n) (h2 : n ≤ 9223372036854775807) :
    Calls Try.prog 4 #[.int .i64 n] w fun e w' => e = .returned (.string ⟨(numB (foldN n)).toArray⟩) ∧ Below w.heap.size w w' := by
  obtain ⟨i0, hi, hz0, hz1, hz2⟩ := info_parts infoU8
  have hu := foldN_lt h1 h2
  go_enter Try.func4, Try.ntmps4
  go_wp2_with (go_at_call 6; refine (fold_any _ _ h1 h2).mono ?_; rintro e w1 ⟨rfl, rfl⟩)
  generalize hue : foldN n = u at *
  have HU : Hid (foldN n = u) := hue
  clear hue
  go_loopw [3, 4] (fun x b wr => ∃ (v : Nat) (l : List UInt8), x = .int .u64 v ∧ v < 18446744073709551616 ∧ Hid (l ++ numB v = numB u) ∧ wr.ownsRow w1.heap.size 5 1 b l.length (Lib.byteCells l) ∧ Below w1.heap.size w1 wr) (fun x _ _ => (intOf x).toNat)
  case atStart => exact ⟨u, [], rfl, hu, rfl, World.ownsRow_made w1 #[] 0 (Nat.le_refl _) (Nat.zero_le _) rfl, (Below.refl _ _).alloc (Nat.le_refl _) _⟩
  case round =>
    obtain ⟨v, l, rfl, hv, HL, hown, hb⟩ := hrel
    have hl9 := grow_len HL.out hu
    have hbs := hb.size
    by_cases hv1 : v < 128
    · have hvi : ¬ (128 : Int) ≤ (v : Int) := by omega
      go_wp2_with (at_builtin; refine wpList_append_own _ rfl _ _ 26 rfl w1.heap.size 5 i0 (.int .u8 0) 1 1 Try.underlying26 hi hz0 hz1 hz2 rfl (by decide) _ _ _ rfl (hown.alloc _) ⟨wr.heap.size, 0, none⟩ 1 1 [.int .u8 (v : Int)] rfl rfl (cell_one_new _ _ _) (by intro u hu; simp at hu; subst hu; rfl) (by unfold maxLen; omega) (by omega) (by simp; omega) ?_)
      intro v' w2 hown2 hgrow _
      rw [snoc_cells l v (by omega)] at hown2
      obtain ⟨g, cap, rfl⟩ := own_shape hown2
      obtain ⟨more, HG⟩ := row_own hown2
      have hb2 : Below w1.heap.size w1 w2 := (hb.alloc hbs _).grown hgrow (by simp; omega) (fun k hk => (hown.lt k hk).1)
      go_wp2_with fail
      rw [text_of_row (P := Try.prog) w2 26 9 5 Try.underlying26 Try.underlying5 Try.underlying9 g (l.length + 1) cap 5 _ _ HG (by simp)]
      go_wp2
      go_ret
      exact ⟨ret_text (by rw [HU.out, ← HL.out, numB_small hv1]), hb2⟩
    · have hvi : (128 : Int) ≤ (v : Int) := by omega
      have hl8 := grow_more HL.out hu hv1
      go_wp2_with (at_builtin; refine wpList_append_own _ rfl _ _ 26 rfl w1.heap.size 5 i0 (.int .u8 0) 1 1 Try.underlying26 hi hz0 hz1 hz2 rfl (by decide) _ _ _ rfl (hown.alloc _) ⟨wr.heap.size, 0, none⟩ 1 1 [.int .u8 ((v : Int) % 128 + 128)] rfl rfl (cell_one_new _ _ _) (by intro u hu; simp at hu; subst hu; rfl) (by unfold maxLen; omega) (by omega) (by simp; omega) ?_)
      intro v' w2 hown2 hgrow _
      rw [show ((v : Int) % 128 + 128) = ((v % 128 + 128 : Nat) : Int) by omega, snoc_cells l _ (by omega)] at hown2
      have hb2 : Below w1.heap.size w1 w2 := (hb.alloc hbs _).grown hgrow (by simp; omega) (fun k hk => (hown.lt k hk).1)
      clear hown hgrow hb
      go_wp2
      go_roundw
      case rel => exact ⟨v / 128, l ++ [UInt8.ofNat (v % 128 + 128)], by go_num, by omega, grow_step HL.out hv1, by simpa using hown2, hb2⟩
      case measure => simp [intOf]; omega

theorem row_frozen {w : World} {g : Nat} {t : TypeId} {L : List Value} (hg : RowAt w g t L) (j : Nat) : w.frozen? ⟨g, j, none⟩ = false := by
  unfold RowAt at hg
  simp only [World.frozen?, hg]
  simp
theorem row_store {w : World} {g : Nat} {t : TypeId} {l : List UInt8} {z : Value} {rest : List Value} {k : Nat} (hg : RowAt w g t (Lib.byteCells l ++ (z :: rest))) (hk : k < 256) :
    RowAt (w.setCell ⟨g, l.length, none⟩ (.int .u8 (k : Int))) g t (Lib.byteCells (l ++ [UInt8.ofNat k]) ++ rest) := by
  unfold RowAt at *
  rw [heap_setCell_same w g l.length _ t _ hg, ← snoc_cells l k hk]
  simp [Lib.byteCells_length]

theorem cut_ten (g k : Nat) (w : World) (hk : k < 10) :
    Sem.run Try.prog (Instr.sliceAt 27 (.pointer (some ⟨g, 0, none⟩)) none (some (.int .i64 ((k : Int) + 1))) none) w = .ok (.slice (some ⟨g, 0, none⟩) (k + 1) 10) w := by
  have h1 : Try.prog.arrayLen 27 = 10 := by kernel_rfl
  have h2 : Try.prog.elem 27 = 5 := by kernel_rfl
  have h3 : Try.prog.underlying 27 = some (.array (Try.prog.arrayLen 27) (Try.prog.elem 27)) := by rw [h1, h2]; exact Try.underlying27
  have h4 : Sem.run Try.prog (sizeOf 5) w = .ok 1 w := by
    obtain ⟨i0, hi, _, hz1, _⟩ := info_parts infoU8
    simp [sizeOf, typeInfo, hi, hz1]
  rw [run_sliceAt_array_h w 27 ⟨g, 0, none⟩ h3 .i64 _ (by omega) (by rw [h1]; omega), h2, h4, h1]
  simp [Result.andThen, slicedAt, Addr.add, show ((k : Int) + 1).toNat = k + 1 by omega]

set_option maxHeartbeats 400000 in
theorem implPutNum_any (n : Int) (w : World) (h1 : -9223372036854775808 ≤ n) (h2 : n ≤ 9223372036854775807) :
    Calls Try.prog 5 #[.int .i64 n] w fun e w' => e = .returned (.string ⟨(numB (foldN n)).toArray⟩) ∧ Below w.heap.size w w' := by
  have hu := foldN_lt h1 h2
  have HF : Hid ((0 ≤ n → bits .xor .u64 (n * 2) (n / 9223372036854775808) = ((foldN n : Nat) : Int)) ∧ (n < 0 → bits .xor .u64 (IntKind.u64.wrap (IntKind.u64.wrap n * 2)) (IntKind.u64.wrap (n / 9223372036854775808)) = ((foldN n : Nat) : Int))) := ⟨fun h => fold_pos h2 h, fun h => fold_neg h1 h⟩
  generalize foldN n = u at *
  have HZ : Hid (RowAt (w.alloc (.cells #[.int .u8 0, .int .u8 0, .int .u8 0, .int .u8 0, .int .u8 0, .int .u8 0, .int .u8 0, .int .u8 0, .int .u8 0, .int .u8 0] 27)) w.heap.size 27 (Lib.byteCells [] ++ List.replicate 10 (.int .u8 0))) := by
    show RowAt _ _ _ _
    unfold RowAt; rw [heap_alloc_new]; rfl
  by_cases h : n < 0
  all_goals
    go_enter Try.func5, Try.ntmps5
    go_wp2
    go_loopw [4, 5] (fun x i wr => ∃ (v : Nat) (l : List UInt8) (rest : List Value), x = .int .u64 v ∧ i = .int .i64 l.length ∧ v < 18446744073709551616 ∧ Hid (l ++ numB v = numB u) ∧ Hid (RowAt wr w.heap.size 27 (Lib.byteCells l ++ rest)) ∧ l.length + rest.length = 10 ∧ Below w.heap.size w wr) (fun x _ _ => (intOf x).toNat)
    case atStart => exact ⟨u, [], List.replicate 10 (.int .u8 0), val_int (by first | exact HF.out.1 (by omega) | exact HF.out.2 h), rfl, hu, rfl, HZ.out, by simp, (Below.refl _ _).alloc (Nat.le_refl _) _⟩
    case round =>
      obtain ⟨v, l, rest, rfl, rfl, hv, HL, HR, hlr, hb⟩ := hrel
      have hl9 := grow_len HL.out hu
      obtain ⟨z, rest', rfl⟩ : ∃ z r, rest = z :: r := by cases rest with
        | nil => simp at hlr; omega
        | cons z r => exact ⟨z, r, rfl⟩
      have hcell : wr.cell? ⟨w.heap.size, l.length, none⟩ = some z := by rw [row_cell HR.out]; simp [Lib.byteCells_length]
      have hfz : wr.frozen? ⟨w.heap.size, l.length, none⟩ = false := row_frozen HR.out _
      simp at hlr
      by_cases hv1 : v < 128
      · have hvi : ¬ (128 : Int) ≤ (v : Int) := by omega
        have HS := row_store (k := v) HR.out (by omega)
        have hcut := fun W => cut_ten w.heap.size l.length W (by omega)
        go_wp2_with fail
        rw [text_of_row (P := Try.prog) _ 26 9 5 Try.underlying26 Try.underlying5 Try.underlying9 w.heap.size (l.length + 1) 10 27 _ _ HS (by simp)]
        go_wp2
        go_ret
        exact ⟨ret_text (by rw [← HL.out, numB_small hv1]), hb.setCell (Nat.le_refl _) _⟩
      · have hvi : (128 : Int) ≤ (v : Int) := by omega
        have hl8 := grow_more HL.out hu hv1
        have HS := row_store (k := v % 128 + 128) HR.out (by omega)
        have HS2 : Hid (RowAt (wr.setCell ⟨w.heap.size, l.length, none⟩ (.int .u8 ((v : Int) % 128 + 128))) w.heap.size 27 (Lib.byteCells (l ++ [UInt8.ofNat (v % 128 + 128)]) ++ rest')) := by
          rw [show ((v : Int) % 128 + 128) = ((v % 128 + 128 : Nat) : Int) by omega]; exact HS
        clear HS
        go_wp2
        go_roundw
        case rel => exact ⟨v / 128, l ++ [UInt8.ofNat (v % 128 + 128)], rest', by go_num, by simp, by omega, grow_step HL.out hv1, HS2, by simp; omega, hb.setCell (Nat.le_refl _) _⟩
        case measure => simp [intOf]; omega
end Go.Proofs.Ytcnimhkabeapkad
