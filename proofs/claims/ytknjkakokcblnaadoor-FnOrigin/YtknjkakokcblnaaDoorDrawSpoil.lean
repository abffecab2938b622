/- The specification's spoil: a text changed a little is at most one byte longer. -/
import Derived.Test.YtknjkakokcblnaaDoorDrawUrl
import Derived.Test.YtknjkakokcblnaaDoorSpecDec
import Derived.Maps.AppendAt
namespace Go.Proofs.YtknjkakokcblnaaDoor
open Go.RowKit

set_option maxRecDepth 10000 in
set_option maxHeartbeats 2000000 in
theorem spoil_any (g : Nat) (t : ByteArray) (w : World) (hs : SrcAt w g) (ht : t.size ≤ 1048576) :
    Calls Tryd.prog 50 #[.pointer (some ⟨g, 0, none⟩), .string t] w fun e w' => (∃ x : ByteArray, e = .returned (.string x) ∧ x.size ≤ t.size + 1) ∧ SrcAt w' g ∧ w.grownBy w' (some g) := by
  have HN : Hid (Calls Tryd.prog 44 #[.pointer (some ⟨g, 0, none⟩), .int .i64 ((t.size : Int) + 1)] w fun e w' => ∃ r : Int, e = .returned (.int .i64 r) ∧ 0 ≤ r ∧ (1 < (t.size : Int) + 1 → r < (t.size : Int) + 1) ∧ ((t.size : Int) + 1 ≤ 1 → r = 0) ∧ SrcAt w' g ∧ w.grownBy w' (some g)) := srcN_any g _ w hs (by omega)
  clear hs
  go_enter Tryd.func50, Tryd.ntmps50
  go_wp2_with fail
  refine HN.out.mono ?_
  rintro e w1 ⟨r, rfl, r0, r1, r1', s1, g1⟩
  obtain ⟨k, rfl⟩ : ∃ k : Nat, r = k := ⟨r.toNat, by omega⟩
  have hk : k ≤ t.size := by omega
  clear HN r0 r1 r1'
  go_wp2_with fail
  refine (srcN_any g 17 _ s1 (by decide)).mono ?_
  rintro e w2 ⟨r, rfl, r0, r1, _, s2, g2⟩
  have r2 := r1 (by decide)
  obtain ⟨j, rfl⟩ : ∃ j : Nat, r = j := ⟨r.toNat, by omega⟩
  have hj : j < 17 := by omega
  have G2 : Hid (w.grownBy w2 (some g)) := g1.trans g2
  clear r1 r0 g1 g2 s1
  go_wp2_with fail
  have hr : RowAt (w2.alloc (.cells #[.int .u8 (((⟨#[32, 10, 48, 97, 45, 110, 44, 58, 93, 255, 40, 120, 126, 49, 128, 225, 59]⟩ : ByteArray)[j]'hj).toNat : Int)] 5)) w2.heap.size 5 (Lib.byteCells [UInt8.ofNat ((⟨#[32, 10, 48, 97, 45, 110, 44, 58, 93, 255, 40, 120, 126, 49, 128, 225, 59]⟩ : ByteArray)[j]'hj).toNat] ++ []) := one_row _ w2 _ (UInt8.toNat_lt _)
  rw [text_of_row (P := Tryd.prog) _ 22 9 5 Tryd.underlying22 Tryd.underlying5 Tryd.underlying9 w2.heap.size 1 1 5 _ _ hr rfl]
  have hc1 : (⟨[UInt8.ofNat ((⟨#[32, 10, 48, 97, 45, 110, 44, 58, 93, 255, 40, 120, 126, 49, 128, 225, 59]⟩ : ByteArray)[j]'hj).toNat].toArray⟩ : ByteArray).size ≤ 1 := Nat.le_refl _
  clear hr
  generalize (⟨[UInt8.ofNat ((⟨#[32, 10, 48, 97, 45, 110, 44, 58, 93, 255, 40, 120, 126, 49, 128, 225, 59]⟩ : ByteArray)[j]'hj).toNat].toArray⟩ : ByteArray) = c at *
  have s3 := s2.alloc (.cells #[.int .u8 (((⟨#[32, 10, 48, 97, 45, 110, 44, 58, 93, 255, 40, 120, 126, 49, 128, 225, 59]⟩ : ByteArray)[j]'hj).toNat : Int)] 5)
  have G3 : Hid (w.grownBy (w2.alloc (.cells #[.int .u8 (((⟨#[32, 10, 48, 97, 45, 110, 44, 58, 93, 255, 40, 120, 126, 49, 128, 225, 59]⟩ : ByteArray)[j]'hj).toNat : Int)] 5)) (some g)) := G2.out.trans (World.grownBy_alloc _ _ _)
  generalize ((⟨#[32, 10, 48, 97, 45, 110, 44, 58, 93, 255, 40, 120, 126, 49, 128, 225, 59]⟩ : ByteArray)[j]'hj) = cc at *
  generalize w2.alloc (.cells #[.int .u8 (cc.toNat : Int)] 5) = w3 at *
  clear s2 G2
  by_cases he : k = t.size
  · subst he
    go_wp2_with fail
    go_region
    go_wp2
    go_ret
    exact ⟨⟨_, rfl, by rw [ByteArray.size_append]; omega⟩, s3.drew, grown_drew G3.out⟩
  · have q : ((k : Int) == (t.size : Int)) = false := by rw [beq_eq_false_iff_ne]; omega
    have hlt : k < t.size := by omega
    have e1 : (t.extract 0 k).size = k := by rw [ByteArray.size_extract]; omega
    have e2 : (t.extract k t.size).size = t.size - k := by rw [ByteArray.size_extract]; omega
    have e3 : (t.extract (k + 1) t.size).size = t.size - (k + 1) := by rw [ByteArray.size_extract]; omega
    have HZ1 : Hid ((t.extract 0 k ++ c ++ t.extract k t.size).size ≤ t.size + 1) := by show _ ≤ _; rw [ByteArray.size_append, ByteArray.size_append]; omega
    have HZ2 : Hid ((t.extract 0 k ++ t.extract (k + 1) t.size).size ≤ t.size + 1) := by show _ ≤ _; rw [ByteArray.size_append]; omega
    have HZ3 : Hid ((t.extract 0 k ++ c ++ t.extract (k + 1) t.size).size ≤ t.size + 1) := by show _ ≤ _; rw [ByteArray.size_append, ByteArray.size_append]; omega
    go_wp2_with fail
    refine (srcOne_any g 3 _ s3 (by decide)).mono ?_
    rintro e w4 ⟨⟨b, rfl⟩, s4, g4⟩
    have G4 : Hid (w.grownBy w4 (some g)) := G3.out.trans g4
    clear s3 G3 g4
    cases b with
    | true =>
      go_wp2_with fail
      go_region
      go_wp2
      go_ret
      exact ⟨⟨_, rfl, HZ1.out⟩, s4.drew, grown_drew G4.out⟩
    | false =>
      go_wp2_with fail
      refine (srcOne_any g 2 _ s4 (by decide)).mono ?_
      rintro e w5 ⟨⟨b, rfl⟩, s5, g5⟩
      have G5 : Hid (w.grownBy w5 (some g)) := G4.out.trans g5
      clear s4 G4 g5
      cases b with
      | true =>
        go_wp2_with fail
        go_region
        go_wp2
        go_ret
        exact ⟨⟨_, rfl, HZ2.out⟩, s5.drew, grown_drew G5.out⟩
      | false =>
        go_wp2_with fail
        go_region
        go_wp2
        go_ret
        exact ⟨⟨_, rfl, HZ3.out⟩, s5.drew, grown_drew G5.out⟩
end Go.Proofs.YtknjkakokcblnaaDoor
