/- 6 of this claim's texts, one behind the other. -/
import Derived.Test.YtecaeolgheefmaaPart6
import Derived.Deep.DeepCutAuto
import Derived.Test.YtecaeolgheefmaaPart1
import Derived.ProofKit
import Derived.OpenShut
import Derived.Test.YtecaeolgheefmaaPart5
import Derived.Test.YtecaeolgheefmaaPart3
import Derived.Deep.RegionHeld3
import Derived.Lib.SliceRun
import Derived.Laws.IdiomCopy
/- The specification's draws of chapter 9, whole: grants, two sites, a time. -/
namespace Go.Proofs.Ytecaeolgheefmaa
open Go.RowKit
theorem some_set {w : World} {p x : Addr} {v : Value} (h : (w.cell? x).isSome = true) : ((w.setCell p v).cell? x).isSome = true := by
  by_cases e : p = x
  · subst e; rw [World.cell?_setCell_same' _ _ _ h]; rfl
  · rw [World.cell?_setCell_other _ _ _ _ e]; exact h
theorem six_facts {W : World} {b : Nat} (v0 v1 v2 v3 v4 v5 : Value) (h : ∀ i, i < 6 → (W.cell? ⟨b, i, none⟩).isSome = true) :
    ∃ F, F = (((((W.setCell ⟨b, 0, none⟩ v0).setCell ⟨b, 1, none⟩ v1).setCell ⟨b, 2, none⟩ v2).setCell ⟨b, 3, none⟩ v3).setCell ⟨b, 4, none⟩ v4).setCell ⟨b, 5, none⟩ v5 ∧
      F.cell? ⟨b, 0, none⟩ = some v0 ∧ F.cell? ⟨b, 1, none⟩ = some v1 ∧ F.cell? ⟨b, 2, none⟩ = some v2 ∧ F.cell? ⟨b, 3, none⟩ = some v3 ∧ F.cell? ⟨b, 4, none⟩ = some v4 ∧ F.cell? ⟨b, 5, none⟩ = some v5 ∧
      F.heap.size = W.heap.size ∧ (∀ k, k ≠ b → F.heap[k]? = W.heap[k]?) ∧ (∀ (B : Nat) (w : World), Below B w W → B ≤ b → Below B w F) := by
  have n (i j : Nat) (h : i ≠ j) : (⟨b, i, none⟩ : Addr) ≠ ⟨b, j, none⟩ := by intro e; injection e with _ e; exact h e
  refine ⟨_, rfl, ?_, ?_, ?_, ?_, ?_, ?_, by simp, fun k hk => ?_, fun B w hb hB => ?_⟩
  · rw [World.cell?_setCell_other _ _ _ _ (n 5 0 (by decide)), World.cell?_setCell_other _ _ _ _ (n 4 0 (by decide)), World.cell?_setCell_other _ _ _ _ (n 3 0 (by decide)), World.cell?_setCell_other _ _ _ _ (n 2 0 (by decide)), World.cell?_setCell_other _ _ _ _ (n 1 0 (by decide))]
    exact World.cell?_setCell_same' _ _ _ (h 0 (by decide))
  · rw [World.cell?_setCell_other _ _ _ _ (n 5 1 (by decide)), World.cell?_setCell_other _ _ _ _ (n 4 1 (by decide)), World.cell?_setCell_other _ _ _ _ (n 3 1 (by decide)), World.cell?_setCell_other _ _ _ _ (n 2 1 (by decide))]
    exact World.cell?_setCell_same' _ _ _ (some_set (h 1 (by decide)))
  · rw [World.cell?_setCell_other _ _ _ _ (n 5 2 (by decide)), World.cell?_setCell_other _ _ _ _ (n 4 2 (by decide)), World.cell?_setCell_other _ _ _ _ (n 3 2 (by decide))]
    exact World.cell?_setCell_same' _ _ _ (some_set (some_set (h 2 (by decide))))
  · rw [World.cell?_setCell_other _ _ _ _ (n 5 3 (by decide)), World.cell?_setCell_other _ _ _ _ (n 4 3 (by decide))]
    exact World.cell?_setCell_same' _ _ _ (some_set (some_set (some_set (h 3 (by decide)))))
  · rw [World.cell?_setCell_other _ _ _ _ (n 5 4 (by decide))]
    exact World.cell?_setCell_same' _ _ _ (some_set (some_set (some_set (some_set (h 4 (by decide))))))
  · exact World.cell?_setCell_same' _ _ _ (some_set (some_set (some_set (some_set (some_set (h 5 (by decide)))))))
  · simp only [World.setCell, Array.getElem?_modify]
    rw [if_neg (Ne.symm hk), if_neg (Ne.symm hk), if_neg (Ne.symm hk), if_neg (Ne.symm hk), if_neg (Ne.symm hk), if_neg (Ne.symm hk)]
  · exact Below.setCell (Below.setCell (Below.setCell (Below.setCell (Below.setCell (Below.setCell hb hB _) hB _) hB _) hB _) hB _) hB _
theorem SliceG.of_blocks {W W' : World} {B : Nat} {v : Value} {L : List Gr} (h : SliceG W B v L) (hz : W.heap.size ≤ W'.heap.size) (hk : ∀ k, B ≤ k → W'.heap[k]? = W.heap[k]?) : SliceG W' B v L := by
  obtain ⟨⟨p, cap, rfl, hg⟩, h2⟩ := h
  refine ⟨⟨p, cap, rfl, fun hn => ?_⟩, h2⟩
  obtain ⟨g, rfl, hB, hgw, hc⟩ := hg hn
  refine ⟨g, rfl, hB, Nat.lt_of_lt_of_le hgw hz, fun j hj o ho => ⟨?_, ?_⟩⟩
  · rw [World.cell?_of_block (a := ⟨g, j * 3 + o, none⟩) (hk g hB)]; exact (hc j hj o ho).1
  · rw [World.frozen?_of_block (a := ⟨g, j * 3 + o, none⟩) (hk g hB)]; exact (hc j hj o ho).2
set_option maxRecDepth 10000 in
set_option maxHeartbeats 4000000 in
theorem drawGrantLive_any (a : Option Addr) (len cap : Nat) (w : World) (hr : CodeRow w a len) (hl : len ≤ 1048576) :
    Calls Try.prog 39 #[.slice a len cap] w fun e w' => (∃ (v : Value) (L : List Gr) (tp si : ByteArray) (n : Int), e = .returned (.tuple #[v, .string tp, .string si, .int .i64 n]) ∧ SliceG w' w.heap.size v L ∧ L.length ≤ 10 ∧ tp.size ≤ 121 ∧ si.size ≤ 121) ∧ Below w.heap.size w w' := by
  have H1 : Hid (Calls Try.prog 49 #[.slice a len cap] w fun e w' => e = .returned (.pointer (some ⟨w.heap.size, 0, none⟩)) ∧ SrcAt w' w.heap.size ∧ Below w.heap.size w w') := source_any a len cap w hr hl
  clear hr
  go_enter Try.func39, Try.ntmps39
  go_wp2_with fail
  refine H1.out.mono ?_
  rintro e w1 ⟨rfl, s1, hb1⟩
  have hz1 : w.heap.size < w1.heap.size := s1.1
  clear H1
  go_wp2_with fail
  refine (srcGrants8_any _ _ s1).mono ?_
  rintro e w2 ⟨⟨v, L, rfl, o2, hL⟩, s2, g2⟩
  have B2 : Hid (Below w.heap.size w w2) := below_grown hb1 g2 hb1.size (Nat.le_refl _)
  have O2 : Hid (SliceG w2 w1.heap.size v L) := o2
  clear g2 s1 o2 hb1
  go_wp2_with fail
  refine (srcSite8_any _ _ s2).mono ?_
  rintro e w3 ⟨⟨tp, rfl, htp⟩, s3, g3⟩
  have B3 : Hid (Below w.heap.size w w3) := below_grown B2.out g3 B2.out.size (Nat.le_refl _)
  have O3 : Hid (SliceG w3 w1.heap.size v L) := SliceG.keepG O2.out g3 (fun h => by obtain ⟨g, e, h1, -⟩ := O2.out.1.place h; exact ⟨g, e, by omega⟩)
  clear g3 s2 B2 O2
  go_wp2_with fail
  refine (srcSite8_any _ _ s3).mono ?_
  rintro e w4 ⟨⟨si, rfl, hsi⟩, s4, g4⟩
  have B4 : Hid (Below w.heap.size w w4) := below_grown B3.out g4 B3.out.size (Nat.le_refl _)
  have O4 : Hid (SliceG w4 w1.heap.size v L) := SliceG.keepG O3.out g4 (fun h => by obtain ⟨g, e, h1, -⟩ := O3.out.1.place h; exact ⟨g, e, by omega⟩)
  clear g4 s3 B3 O3
  go_wp2_with fail
  refine (srcNow8_any _ _ s4).mono ?_
  rintro e w5 ⟨⟨n, rfl⟩, -, g5⟩
  have B5 : Hid (Below w.heap.size w w5) := below_grown B4.out g5 B4.out.size (Nat.le_refl _)
  have O5 : Hid (SliceG w5 w1.heap.size v L) := SliceG.keepG O4.out g5 (fun h => by obtain ⟨g, e, h1, -⟩ := O4.out.1.place h; exact ⟨g, e, by omega⟩)
  clear g5 s4 B4 O4
  go_wp2
  exact bodyPost_ret (v := .tuple #[v, .string tp, .string si, .int .i64 n]) (by simp [results, Try.results39, go_sem]) rfl ⟨⟨v, L, tp, si, n, rfl, O5.out.mono (Nat.le_of_lt hz1), hL, htp, hsi⟩, B5.out⟩
set_option maxRecDepth 10000 in
set_option maxHeartbeats 1000000 in
theorem drawGrantPut_any (a : Option Addr) (len cap : Nat) (w : World) (hr : CodeRow w a len) (hl : len ≤ 1048576) :
    Calls Try.prog 10 #[.slice a len cap] w fun e w' => (∃ (v : Value) (L : List Gr) (tp si : ByteArray) (n : Int), e = .returned (.tuple #[v, .string tp, .string si, .int .i64 n]) ∧ SliceG w' w.heap.size v L ∧ L.length ≤ 10 ∧ tp.size ≤ 121 ∧ si.size ≤ 121) ∧ Below w.heap.size w w' := by
  have H1 := drawGrantLive_any a len cap w hr hl
  clear hr
  go_enter Try.func10, Try.ntmps10
  go_wp2_with fail
  refine H1.mono ?_
  rintro e w1 ⟨⟨v, L, tp, si, n, rfl, o, hL, htp, hsi⟩, hb⟩
  have O : Hid (SliceG w1 w.heap.size v L) := o
  have B : Hid (Below w.heap.size w w1) := hb
  clear o hb
  go_wp2
  exact bodyPost_ret (v := .tuple #[v, .string tp, .string si, .int .i64 n]) (by simp [results, Try.results10, go_sem]) rfl ⟨⟨v, L, tp, si, n, rfl, O.out, hL, htp, hsi⟩, B.out⟩
set_option maxRecDepth 10000 in
set_option maxHeartbeats 1000000 in
theorem drawGrantDrop_any (a : Option Addr) (len cap : Nat) (w : World) (hr : CodeRow w a len) (hl : len ≤ 1048576) :
    Calls Try.prog 14 #[.slice a len cap] w fun e w' => (∃ (v : Value) (L : List Gr) (tp si : ByteArray), e = .returned (.tuple #[v, .string tp, .string si]) ∧ SliceG w' w.heap.size v L ∧ L.length ≤ 10 ∧ tp.size ≤ 121 ∧ si.size ≤ 121) ∧ Below w.heap.size w w' := by
  have H1 := drawGrantLive_any a len cap w hr hl
  clear hr
  go_enter Try.func14, Try.ntmps14
  go_wp2_with fail
  refine H1.mono ?_
  rintro e w1 ⟨⟨v, L, tp, si, n, rfl, o, hL, htp, hsi⟩, hb⟩
  have O : Hid (SliceG w1 w.heap.size v L) := o
  have B : Hid (Below w.heap.size w w1) := hb
  clear o hb
  go_wp2
  exact bodyPost_ret (v := .tuple #[v, .string tp, .string si]) (by simp [results, Try.results14, go_sem]) rfl ⟨⟨v, L, tp, si, rfl, O.out, hL, htp, hsi⟩, B.out⟩
set_option maxRecDepth 10000 in
set_option maxHeartbeats 4000000 in
theorem drawGrantOld_any (a : Option Addr) (len cap : Nat) (w : World) (hr : CodeRow w a len) (hl : len ≤ 1048576) :
    Calls Try.prog 16 #[.slice a len cap] w fun e w' => (∃ (v : Value) (L : List Gr) (n : Int), e = .returned (.tuple #[v, .int .i64 n]) ∧ SliceG w' w.heap.size v L ∧ L.length ≤ 10) ∧ Below w.heap.size w w' := by
  have H1 : Hid (Calls Try.prog 49 #[.slice a len cap] w fun e w' => e = .returned (.pointer (some ⟨w.heap.size, 0, none⟩)) ∧ SrcAt w' w.heap.size ∧ Below w.heap.size w w') := source_any a len cap w hr hl
  clear hr
  go_enter Try.func16, Try.ntmps16
  go_wp2_with fail
  refine H1.out.mono ?_
  rintro e w1 ⟨rfl, s1, hb1⟩
  have hz1 : w.heap.size < w1.heap.size := s1.1
  clear H1
  go_wp2_with fail
  refine (srcGrants8_any _ _ s1).mono ?_
  rintro e w2 ⟨⟨v, L, rfl, o2, hL⟩, s2, g2⟩
  have B2 : Hid (Below w.heap.size w w2) := below_grown hb1 g2 hb1.size (Nat.le_refl _)
  have O2 : Hid (SliceG w2 w1.heap.size v L) := o2
  clear g2 s1 o2 hb1
  go_wp2_with fail
  refine (srcNow8_any _ _ s2).mono ?_
  rintro e w5 ⟨⟨n, rfl⟩, -, g5⟩
  have B5 : Hid (Below w.heap.size w w5) := below_grown B2.out g5 B2.out.size (Nat.le_refl _)
  have O5 : Hid (SliceG w5 w1.heap.size v L) := SliceG.keepG O2.out g5 (fun h => by obtain ⟨g, e, h1, -⟩ := O2.out.1.place h; exact ⟨g, e, by omega⟩)
  clear g5 s2 B2 O2
  go_wp2
  exact bodyPost_ret (v := .tuple #[v, .int .i64 n]) (by simp [results, Try.results16, go_sem]) rfl ⟨⟨v, L, n, rfl, O5.out.mono (Nat.le_of_lt hz1), hL⟩, B5.out⟩
set_option maxRecDepth 10000 in
set_option maxHeartbeats 8000000 in
theorem drawGrantAsk_any (a : Option Addr) (len cap : Nat) (w : World) (hr : CodeRow w a len) (hl : len ≤ 1048576) :
    Calls Try.prog 12 #[.slice a len cap] w fun e w' => (∃ (v : Value) (L : List Gr) (tp si : ByteArray) (tc sa re ye : Bool) (n : Int), e = .returned (.tuple #[v, .agg #[.string tp, .string si, .bool tc, .bool sa, .bool re, .bool ye], .int .i64 n]) ∧ SliceG w' w.heap.size v L ∧ L.length ≤ 10 ∧ tp.size ≤ 121 ∧ si.size ≤ 121) ∧ Below w.heap.size w w' := by
  have HR : Hid (CodeRow w a len) := hr
  clear hr
  obtain ⟨W0, hW⟩ : ∃ W, W = w.alloc (.cells #[.string ⟨#[]⟩, .string ⟨#[]⟩, .bool false, .bool false, .bool false, .bool false] 30) := ⟨_, rfl⟩
  have HW : Hid (W0 = w.alloc (.cells #[.string ⟨#[]⟩, .string ⟨#[]⟩, .bool false, .bool false, .bool false, .bool false] 30)) := hW
  have B0 : Hid (Below w.heap.size w W0) := by show Below _ _ _; rw [hW]; exact (Below.refl _ _).alloc (Nat.le_refl _) _
  have hz0 : w.heap.size < W0.heap.size := by rw [hW]; simp
  have C0 : Hid ((∀ i, i < 6 → ∀ u, (#[.string ⟨#[]⟩, .string ⟨#[]⟩, .bool false, .bool false, .bool false, .bool false] : Array Value)[i]? = some u → W0.cell? ⟨w.heap.size, i, none⟩ = some u) ∧ ∀ i, W0.frozen? ⟨w.heap.size, i, none⟩ = false) := by
    show _ ∧ _
    rw [hW]
    exact ⟨fun i hi u hu => by rw [World.cell?_alloc_new]; exact hu, fun i => by simp⟩
  clear hW
  go_enter Try.func12, Try.ntmps12
  go_upto_region 1 with fail
  rw [← HW.out]
  clear HW
  go_wp2_with fail
  refine (source_any a len cap _ (HR.out.below B0.out) hl).mono ?_
  rintro e w1 ⟨rfl, s1, hb1⟩
  have hz1 : W0.heap.size < w1.heap.size := s1.1
  have G1 : Hid (W0.grownBy w1 (some W0.heap.size)) := grown_of_below (grown_refl W0 _) hb1
  have B1 : Hid (Below w.heap.size w w1) := B0.out.trans (hb1.mono B0.out.size)
  clear hb1 B0
  go_wp2_with fail
  refine (srcGrants8_any _ _ s1).mono ?_
  rintro e w2 ⟨⟨v, L, rfl, o2, hL⟩, s2, g2⟩
  have B2 : Hid (Below w.heap.size w w2) := below_grown B1.out g2 B1.out.size (Nat.le_of_lt hz0)
  have G2 : Hid (W0.grownBy w2 (some W0.heap.size)) := G1.out.trans g2
  have O2 : Hid (SliceG w2 w1.heap.size v L) := o2
  clear g2 s1 o2 G1 B1
  go_wp2_with fail
  refine (srcSite8_any _ _ s2).mono ?_
  rintro e w3 ⟨⟨tp, rfl, htp⟩, s3, g3⟩
  have B3 : Hid (Below w.heap.size w w3) := below_grown B2.out g3 B2.out.size (Nat.le_of_lt hz0)
  have G3 : Hid (W0.grownBy w3 (some W0.heap.size)) := G2.out.trans g3
  have O3 : Hid (SliceG w3 w1.heap.size v L) := SliceG.keepG O2.out g3 (fun h => by obtain ⟨g, e, h1, -⟩ := O2.out.1.place h; exact ⟨g, e, by omega⟩)
  clear g3 s2 B2 G2 O2
  go_wp2_with fail
  refine (srcSite8_any _ _ s3).mono ?_
  rintro e w4 ⟨⟨si, rfl, hsi⟩, s4, g4⟩
  have B4 : Hid (Below w.heap.size w w4) := below_grown B3.out g4 B3.out.size (Nat.le_of_lt hz0)
  have G4 : Hid (W0.grownBy w4 (some W0.heap.size)) := G3.out.trans g4
  have O4 : Hid (SliceG w4 w1.heap.size v L) := SliceG.keepG O3.out g4 (fun h => by obtain ⟨g, e, h1, -⟩ := O3.out.1.place h; exact ⟨g, e, by omega⟩)
  clear g4 s3 B3 G3 O3
  go_wp2_with fail
  refine (srcOne_any _ 3 _ s4 (by decide)).mono ?_
  rintro e w5 ⟨⟨b1, rfl⟩, s5, g5⟩
  have B5 : Hid (Below w.heap.size w w5) := below_grown B4.out g5 B4.out.size (Nat.le_of_lt hz0)
  have G5 : Hid (W0.grownBy w5 (some W0.heap.size)) := G4.out.trans g5
  have O5 : Hid (SliceG w5 w1.heap.size v L) := SliceG.keepG O4.out g5 (fun h => by obtain ⟨g, e, h1, -⟩ := O4.out.1.place h; exact ⟨g, e, by omega⟩)
  clear g5 s4 B4 G4 O4
  go_wp2_with fail
  refine (srcOne_any _ 5 _ s5 (by decide)).mono ?_
  rintro e w6 ⟨⟨b2, rfl⟩, s6, g6⟩
  have B6 : Hid (Below w.heap.size w w6) := below_grown B5.out g6 B5.out.size (Nat.le_of_lt hz0)
  have G6 : Hid (W0.grownBy w6 (some W0.heap.size)) := G5.out.trans g6
  have O6 : Hid (SliceG w6 w1.heap.size v L) := SliceG.keepG O5.out g6 (fun h => by obtain ⟨g, e, h1, -⟩ := O5.out.1.place h; exact ⟨g, e, by omega⟩)
  clear g6 s5 B5 G5 O5
  go_wp2_with fail
  refine (srcOne_any _ 3 _ s6 (by decide)).mono ?_
  rintro e w7 ⟨⟨b3, rfl⟩, s7, g7⟩
  have B7 : Hid (Below w.heap.size w w7) := below_grown B6.out g7 B6.out.size (Nat.le_of_lt hz0)
  have G7 : Hid (W0.grownBy w7 (some W0.heap.size)) := G6.out.trans g7
  have O7 : Hid (SliceG w7 w1.heap.size v L) := SliceG.keepG O6.out g7 (fun h => by obtain ⟨g, e, h1, -⟩ := O6.out.1.place h; exact ⟨g, e, by omega⟩)
  clear g7 s6 B6 G6 O6
  go_wp2_with fail
  refine (srcOne_any _ 2 _ s7 (by decide)).mono ?_
  rintro e w8 ⟨⟨b4, rfl⟩, s8, g8⟩
  have B8 : Hid (Below w.heap.size w w8) := below_grown B7.out g8 B7.out.size (Nat.le_of_lt hz0)
  have G8 : Hid (W0.grownBy w8 (some W0.heap.size)) := G7.out.trans g8
  have O8 : Hid (SliceG w8 w1.heap.size v L) := SliceG.keepG O7.out g8 (fun h => by obtain ⟨g, e, h1, -⟩ := O7.out.1.place h; exact ⟨g, e, by omega⟩)
  clear g8 s7 B7 G7 O7
  -- region 4
  obtain ⟨W9, hW9⟩ : ∃ W, W = w8.alloc (.cells #[.string tp, .string si, .bool !b1, .bool b2, .bool b3, .bool b4] 30) := ⟨_, rfl⟩
  have HW9 : Hid (W9 = w8.alloc (.cells #[.string tp, .string si, .bool !b1, .bool b2, .bool b3, .bool b4] 30)) := hW9
  have A9 : Below w8.heap.size w8 W9 := by rw [hW9]; exact (Below.refl _ _).alloc (Nat.le_refl _) _
  have B9 : Hid (Below w.heap.size w W9) := B8.out.trans (A9.mono B8.out.size)
  have G9 : Hid (W0.grownBy W9 (some W0.heap.size)) := grown_of_below G8.out A9
  have O9 : Hid (SliceG W9 w1.heap.size v L) := O8.out.below A9
  have S9 : Hid (SrcAt W9 W0.heap.size) := s8.below A9
  have hs8 := s8.1
  obtain ⟨b7, hb7⟩ : ∃ b, b = w8.heap.size := ⟨_, rfl⟩
  have Hb7 : Hid (b7 = w8.heap.size) := hb7
  have q0 : W9.cell? ⟨b7, 0, none⟩ = some (.string tp) := by rw [hW9, hb7]; simp
  have q1 : W9.cell? ⟨b7, 1, none⟩ = some (.string si) := by rw [hW9, hb7]; simp
  have q2 : W9.cell? ⟨b7, 2, none⟩ = some (.bool !b1) := by rw [hW9, hb7]; simp
  have q3 : W9.cell? ⟨b7, 3, none⟩ = some (.bool b2) := by rw [hW9, hb7]; simp
  have q4 : W9.cell? ⟨b7, 4, none⟩ = some (.bool b3) := by rw [hW9, hb7]; simp
  have q5 : W9.cell? ⟨b7, 5, none⟩ = some (.bool b4) := by rw [hW9, hb7]; simp
  have z7 : W0.heap.size < b7 := by omega
  clear hW9 A9 B8 G8 O8 s8 hb7 hs8
  go_upto_region 4 with fail
  rw [← HW9.out, ← Hb7.out]
  clear HW9 Hb7
  refine wp_region_held_drew (S := (fun w' => w'.cell? ⟨b7, 0, none⟩ = some (.string tp) ∧ w'.cell? ⟨b7, 1, none⟩ = some (.string si) ∧ w'.cell? ⟨b7, 2, none⟩ = some (.bool !b1) ∧ w'.cell? ⟨b7, 3, none⟩ = some (.bool b2) ∧ w'.cell? ⟨b7, 4, none⟩ = some (.bool b3) ∧ w'.cell? ⟨b7, 5, none⟩ = some (.bool b4))) (by kernel_rfl) ?_ (fun hH0 => ?_)
  · (try dsimp only)
    go_keep
  refine wpAnyH_take (i := 0) (oi := { dst := some 26, op := Op.move (Operand.tmp 6), type := 23, pos := "l08_grant.go:197", after := #[], guard := none }) (v := ?va0) rfl (by kernel_rfl) (by kernel_rfl) (by kernel_rfl) (fun _ _ _ h => h) (Or.inl ⟨by rfl, ?hya0⟩) (by assumption) ?resta0
  case hya0 =>
    intro w hSw
    (try dsimp only at hSw)
    go_simp
    try with_reducible rfl
  try simp only [Act.put, List.setIfInBounds_toArray, List.set_cons_zero, List.set_cons_succ]
  refine wpAnyH_take (i := 1) (oi := { dst := some 27, op := Op.load 30 (Operand.tmp 7), type := 30, pos := "l08_grant.go:197", after := #[{ on := 4, ground := Ground.gcOnly Departure.lateStores }], guard := none }) (v := ?va1) rfl (by kernel_rfl) (by kernel_rfl) (by kernel_rfl) (fun _ _ _ h => h) (Or.inl ⟨by rfl, ?hya1⟩) (by assumption) ?resta1
  case hya1 =>
    intro w hSw
    (try dsimp only at hSw)
    go_simp
    try with_reducible rfl
  try simp only [Act.put, List.setIfInBounds_toArray, List.set_cons_zero, List.set_cons_succ]
  refine wpAnyH_take (i := 2) (oi := { dst := some 28, op := Op.move (Operand.tmp 5), type := 71, pos := "l08_grant.go:197", after := #[], guard := none }) (v := ?va2) rfl (by kernel_rfl) (by kernel_rfl) (by kernel_rfl) (fun _ _ _ h => h) (Or.inl ⟨by rfl, ?hya2⟩) (by assumption) ?resta2
  case hya2 =>
    intro w hSw
    (try dsimp only at hSw)
    go_simp
    try with_reducible rfl
  try simp only [Act.put, List.setIfInBounds_toArray, List.set_cons_zero, List.set_cons_succ]
  refine wpAnyH_ready (rs := [3]) (by kernel_rfl) (by simp) ?_
  refine AllReadyH.cons (o := { dst := some 29, op := Op.call { callee := Callee.value (Operand.func 53), args := #[Operand.tmp 28], argTypes := #[71] }, type := 2, pos := "l08_grant.go:197", after := #[{ on := 2, ground := Ground.data }], guard := none }) rfl (fun K hK => ?_) AllReadyH.nil
  go_simp
  (go_at_call 53; refine (srcNow8_any _ _ (S9.out.drew)).mono ?_; rintro e wa ⟨⟨n, rfl⟩, -, ga⟩; have y0 : wa.cell? ⟨b7, 0, none⟩ = some (.string tp) := ga.cell (a := ⟨b7, 0, none⟩) q0 (by intro e; have e2 : b7 = W0.heap.size := Option.some.inj e; omega); have y1 : wa.cell? ⟨b7, 1, none⟩ = some (.string si) := ga.cell (a := ⟨b7, 1, none⟩) q1 (by intro e; have e2 : b7 = W0.heap.size := Option.some.inj e; omega); have y2 : wa.cell? ⟨b7, 2, none⟩ = some (.bool !b1) := ga.cell (a := ⟨b7, 2, none⟩) q2 (by intro e; have e2 : b7 = W0.heap.size := Option.some.inj e; omega); have y3 : wa.cell? ⟨b7, 3, none⟩ = some (.bool b2) := ga.cell (a := ⟨b7, 3, none⟩) q3 (by intro e; have e2 : b7 = W0.heap.size := Option.some.inj e; omega); have y4 : wa.cell? ⟨b7, 4, none⟩ = some (.bool b3) := ga.cell (a := ⟨b7, 4, none⟩) q4 (by intro e; have e2 : b7 = W0.heap.size := Option.some.inj e; omega); have y5 : wa.cell? ⟨b7, 5, none⟩ = some (.bool b4) := ga.cell (a := ⟨b7, 5, none⟩) q5 (by intro e; have e2 : b7 = W0.heap.size := Option.some.inj e; omega); have Ga : Hid (W0.grownBy wa (some W0.heap.size)) := (grown_drew G9.out).trans ga; have Ba : Hid (Below w.heap.size w wa) := below_grown (B9.out.drew) ga B9.out.size (Nat.le_of_lt hz0); have Oa : Hid (SliceG wa w1.heap.size v L) := SliceG.keepG (w := W9.drew) O9.out ga (fun h => by obtain ⟨g, e, h1, -⟩ := O9.out.1.place h; exact ⟨g, e, by omega⟩); clear ga)
  try (go_wp2_with fail)
  refine hK.out _ _ ?_ (fun hH1 => ?_)
  · (try dsimp only)
    first | go_keep | (refine ⟨?_, ?_, ?_, ?_, ?_, ?_⟩ <;> assumption)
  clear hK K hH0
  try simp only [Act.put, List.setIfInBounds_toArray, List.set_cons_zero, List.set_cons_succ]
  refine wpAnyH_take (i := 4) (oi := { dst := some 2, op := Op.assign (Operand.tmp 26), type := 23, pos := "l08_grant.go:197", after := #[{ on := 0, ground := Ground.data }, { on := 3, ground := Ground.chain }, { on := 0, ground := Ground.phase }, { on := 1, ground := Ground.textOnly Departure.lateStores }, { on := 2, ground := Ground.textOnly Departure.lateStores }, { on := 3, ground := Ground.textOnly Departure.lateStoresUnsure }], guard := none }) (v := ?va4) rfl (by kernel_rfl) (by kernel_rfl) (by kernel_rfl) (fun _ _ _ h => h) (Or.inl ⟨by rfl, ?hya4⟩) (by assumption) ?resta4
  case hya4 =>
    intro w hSw
    (try dsimp only at hSw)
    go_simp
    try with_reducible rfl
  try simp only [Act.put, List.setIfInBounds_toArray, List.set_cons_zero, List.set_cons_succ]
  refine wpAnyH_ready (rs := [5]) (by kernel_rfl) (by simp) ?_
  refine AllReadyH.cons (o := { dst := none, op := Op.store 30 (Operand.tmp 3) (Operand.tmp 27), type := 0, pos := "l08_grant.go:197", after := #[{ on := 1, ground := Ground.data }, { on := 4, ground := Ground.chain }, { on := 0, ground := Ground.phase }, { on := 1, ground := Ground.phase }, { on := 2, ground := Ground.textOnly Departure.lateStores }, { on := 3, ground := Ground.textOnly Departure.lateStoresUnsure }, { on := 4, ground := Ground.phase }], guard := none }) rfl (fun K hK => ?_) AllReadyH.nil
  ((have c0 : wa.cell? ⟨w.heap.size, 0, none⟩ = some (.string ⟨#[]⟩) := Ga.out.cell (a := ⟨w.heap.size, 0, none⟩) (C0.out.1 0 (by omega) _ rfl) (by intro e; have e2 : w.heap.size = W0.heap.size := Option.some.inj e; omega); have c1 : wa.cell? ⟨w.heap.size, 1, none⟩ = some (.string ⟨#[]⟩) := Ga.out.cell (a := ⟨w.heap.size, 1, none⟩) (C0.out.1 1 (by omega) _ rfl) (by intro e; have e2 : w.heap.size = W0.heap.size := Option.some.inj e; omega); have c2 : wa.cell? ⟨w.heap.size, 2, none⟩ = some (.bool false) := Ga.out.cell (a := ⟨w.heap.size, 2, none⟩) (C0.out.1 2 (by omega) _ rfl) (by intro e; have e2 : w.heap.size = W0.heap.size := Option.some.inj e; omega); have c3 : wa.cell? ⟨w.heap.size, 3, none⟩ = some (.bool false) := Ga.out.cell (a := ⟨w.heap.size, 3, none⟩) (C0.out.1 3 (by omega) _ rfl) (by intro e; have e2 : w.heap.size = W0.heap.size := Option.some.inj e; omega); have c4 : wa.cell? ⟨w.heap.size, 4, none⟩ = some (.bool false) := Ga.out.cell (a := ⟨w.heap.size, 4, none⟩) (C0.out.1 4 (by omega) _ rfl) (by intro e; have e2 : w.heap.size = W0.heap.size := Option.some.inj e; omega); have c5 : wa.cell? ⟨w.heap.size, 5, none⟩ = some (.bool false) := Ga.out.cell (a := ⟨w.heap.size, 5, none⟩) (C0.out.1 5 (by omega) _ rfl) (by intro e; have e2 : w.heap.size = W0.heap.size := Option.some.inj e; omega); have f0 : wa.frozen? ⟨w.heap.size, 0, none⟩ = false := (World.frozen?_of_block (a := ⟨w.heap.size, 0, none⟩) (Ga.out.block w.heap.size hz0 (by intro e; have e2 : w.heap.size = W0.heap.size := Option.some.inj e; omega))).trans (C0.out.2 0); have f1 : wa.frozen? ⟨w.heap.size, 1, none⟩ = false := (World.frozen?_of_block (a := ⟨w.heap.size, 1, none⟩) (Ga.out.block w.heap.size hz0 (by intro e; have e2 : w.heap.size = W0.heap.size := Option.some.inj e; omega))).trans (C0.out.2 1); have f2 : wa.frozen? ⟨w.heap.size, 2, none⟩ = false := (World.frozen?_of_block (a := ⟨w.heap.size, 2, none⟩) (Ga.out.block w.heap.size hz0 (by intro e; have e2 : w.heap.size = W0.heap.size := Option.some.inj e; omega))).trans (C0.out.2 2); have f3 : wa.frozen? ⟨w.heap.size, 3, none⟩ = false := (World.frozen?_of_block (a := ⟨w.heap.size, 3, none⟩) (Ga.out.block w.heap.size hz0 (by intro e; have e2 : w.heap.size = W0.heap.size := Option.some.inj e; omega))).trans (C0.out.2 3); have f4 : wa.frozen? ⟨w.heap.size, 4, none⟩ = false := (World.frozen?_of_block (a := ⟨w.heap.size, 4, none⟩) (Ga.out.block w.heap.size hz0 (by intro e; have e2 : w.heap.size = W0.heap.size := Option.some.inj e; omega))).trans (C0.out.2 4); have f5 : wa.frozen? ⟨w.heap.size, 5, none⟩ = false := (World.frozen?_of_block (a := ⟨w.heap.size, 5, none⟩) (Ga.out.block w.heap.size hz0 (by intro e; have e2 : w.heap.size = W0.heap.size := Option.some.inj e; omega))).trans (C0.out.2 5); obtain ⟨Wf, hWf, d0, d1, d2, d3, d4, d5, hsz, hbl, hbe⟩ := six_facts (W := wa) (b := w.heap.size) (.string tp) (.string si) (.bool !b1) (.bool b2) (.bool b3) (.bool b4) (by intro i hi; match i, hi with | 0, _ => (rw [c0]; rfl) | 1, _ => (rw [c1]; rfl) | 2, _ => (rw [c2]; rfl) | 3, _ => (rw [c3]; rfl) | 4, _ => (rw [c4]; rfl) | 5, _ => (rw [c5]; rfl)); have HWf : Hid (Wf = (World.setCell (World.setCell (World.setCell (World.setCell (World.setCell (World.setCell wa ⟨w.heap.size, 0, none⟩ (.string tp)) ⟨w.heap.size, 1, none⟩ (.string si)) ⟨w.heap.size, 2, none⟩ (.bool !b1)) ⟨w.heap.size, 3, none⟩ (.bool b2)) ⟨w.heap.size, 4, none⟩ (.bool b3)) ⟨w.heap.size, 5, none⟩ (.bool b4))) := hWf; have q0' : Wf.cell? ⟨b7, 0, none⟩ = some (.string tp) := (World.cell?_of_block (a := ⟨b7, 0, none⟩) (hbl b7 (by omega))).trans y0; have q1' : Wf.cell? ⟨b7, 1, none⟩ = some (.string si) := (World.cell?_of_block (a := ⟨b7, 1, none⟩) (hbl b7 (by omega))).trans y1; have q2' : Wf.cell? ⟨b7, 2, none⟩ = some (.bool !b1) := (World.cell?_of_block (a := ⟨b7, 2, none⟩) (hbl b7 (by omega))).trans y2; have q3' : Wf.cell? ⟨b7, 3, none⟩ = some (.bool b2) := (World.cell?_of_block (a := ⟨b7, 3, none⟩) (hbl b7 (by omega))).trans y3; have q4' : Wf.cell? ⟨b7, 4, none⟩ = some (.bool b3) := (World.cell?_of_block (a := ⟨b7, 4, none⟩) (hbl b7 (by omega))).trans y4; have q5' : Wf.cell? ⟨b7, 5, none⟩ = some (.bool b4) := (World.cell?_of_block (a := ⟨b7, 5, none⟩) (hbl b7 (by omega))).trans y5; have Bf : Hid (Below w.heap.size w Wf) := hbe _ _ Ba.out (Nat.le_refl _); have Of : Hid (SliceG Wf w1.heap.size v L) := Oa.out.of_blocks (Nat.le_of_eq hsz.symm) (fun k hk => hbl k (by omega)); clear hWf hsz hbl hbe; go_simp; rw [← HWf.out]; clear HWf))
  refine hK.out _ _ ?_ (fun hH2 => ?_)
  · (try dsimp only)
    first | go_keep | (refine ⟨?_, ?_, ?_, ?_, ?_, ?_⟩ <;> assumption)
  clear hK K hH1
  try simp only [Act.put, List.setIfInBounds_toArray, List.set_cons_zero, List.set_cons_succ]
  refine wpAnyH_take (i := 6) (oi := { dst := some 4, op := Op.assign (Operand.tmp 29), type := 2, pos := "l08_grant.go:197", after := #[{ on := 3, ground := Ground.data }, { on := 5, ground := Ground.chain }, { on := 0, ground := Ground.phase }, { on := 1, ground := Ground.phase }, { on := 2, ground := Ground.phase }, { on := 3, ground := Ground.phase }, { on := 4, ground := Ground.phase }, { on := 5, ground := Ground.phase }], guard := none }) (v := ?va6) rfl (by kernel_rfl) (by kernel_rfl) (by kernel_rfl) (fun _ _ _ h => h) (Or.inl ⟨by rfl, ?hya6⟩) (by assumption) ?resta6
  case hya6 =>
    intro w hSw
    (try dsimp only at hSw)
    go_simp
    try with_reducible rfl
  try simp only [Act.put, List.setIfInBounds_toArray, List.set_cons_zero, List.set_cons_succ]
  refine wpAnyH_done (by kernel_rfl) ?_ _
  go_wp2
  exact bodyPost_ret (v := .tuple #[v, .agg #[.string tp, .string si, .bool !b1, .bool b2, .bool b3, .bool b4], .int .i64 n]) (by simp [results, Try.results12, go_sem, d0, d1, d2, d3, d4, d5]) rfl ⟨⟨v, L, tp, si, !b1, b2, b3, b4, n, rfl, Of.out.mono (by omega), hL, htp, hsi⟩, Bf.out⟩
end Go.Proofs.Ytecaeolgheefmaa

/- A slice of bytes that came in, as a law's frame opens it, is a row of a code. -/
namespace Go.Proofs.Ytecaeolgheefmaa
open Go.ChangeShapes Go.WideShapes Go.ChangeAt Go.RowKit

theorem codeRow_of {H : Type} {enc : TypeId × Value → H} {W : World} {a : Option Addr} {len cap : Nat} {d : DataW H} {p : List MemPlace}
    (h : ∃ fuel, DataW.trod enc Try.prog W 0 (fun _ => true) true fuel 22 (Value.slice a len cap).cells.toList = some (d, p)) : CodeRow W a len := by
  obtain ⟨fuel, hf⟩ := h
  rcases open_ints Try.underlying22 Try.underlying5 (by kernel_rfl) hf with ⟨hcs, _⟩ | ⟨x, l, c, zs, hcs, _, hl, hm, hz, _, hcell, hwz⟩
  · simp [Value.cells] at hcs
    obtain ⟨rfl, rfl, rfl⟩ := hcs
    exact fun i hi => absurd hi (by omega)
  · simp [Value.cells] at hcs
    obtain ⟨rfl, rfl, rfl⟩ := hcs
    intro i hi
    have hz2 : zs.length = cap := by simpa using hz
    have hc := hcell i (by omega)
    have hb := hwz (zs.getD i 0) (by simp [List.getD, show i < zs.length by omega])
    generalize zs.getD i 0 = z at hb hc
    have hbb : 0 ≤ z ∧ z < 256 := by
      simp [Lit.wf, IntKind.min, IntKind.max, IntKind.signed, IntKind.bits] at hb
      omega
    refine ⟨_, _, rfl, ?_, hc, hbb.1, hbb.2⟩
    have : (x.add i).block < W.heap.size := by
      by_cases h : (x.add i).block < W.heap.size
      · exact h
      · exfalso
        simp [World.cell?, Array.getElem?_eq_none (show W.heap.size ≤ (x.add i).block by omega)] at hc
    have e : (x.add i).block = x.block := by
      unfold Addr.add; split
      · rfl
      · rfl
    rw [e] at this; exact this
end Go.Proofs.Ytecaeolgheefmaa

/- The laws' lwGrants and lwGrant. -/
namespace Go.Proofs.Ytecaeolgheefmaa
open Go.RowKit
set_option maxRecDepth 10000 in
set_option maxHeartbeats 8000000 in
theorem lwGrants_any (a b : Value) (L : List Gr) (B B' : Nat) (w : World) (ha : SliceG w B a L) (hb : SliceG w B' b L) (hn : L.length ≤ 1048576) :
    Calls Try.prog 20 #[a, b] w fun e w' => e = .returned (.bool true) ∧ Below w.heap.size w w' := by
  obtain ⟨⟨p, cap, rfl, h1⟩, -⟩ := ha
  obtain ⟨⟨p', cap', rfl, h2⟩, -⟩ := hb
  have H1 : Hid (0 < L.length → ∃ g, p = some ⟨g, 0, none⟩ ∧ B ≤ g ∧ g < w.heap.size ∧ ∀ j, j < L.length → ∀ o, o < 3 → w.cell? ⟨g, j * 3 + o, none⟩ = some (grR L j o) ∧ w.frozen? ⟨g, j * 3 + o, none⟩ = false) := h1
  have H2 : Hid (0 < L.length → ∃ g, p' = some ⟨g, 0, none⟩ ∧ B' ≤ g ∧ g < w.heap.size ∧ ∀ j, j < L.length → ∀ o, o < 3 → w.cell? ⟨g, j * 3 + o, none⟩ = some (grR L j o) ∧ w.frozen? ⟨g, j * 3 + o, none⟩ = false) := h2
  clear h1 h2
  go_enter Try.func20, Try.ntmps20
  go_wp2
  go_loopw [5] (fun i wr => ∃ k : Nat, k ≤ L.length ∧ i = .int .i64 k ∧ Hid (Below w.heap.size w wr)) (fun i _ => L.length - (intOf i).toNat)
  case atStart => exact ⟨0, by omega, rfl, Below.refl _ _⟩
  case round =>
    obtain ⟨k, hk, rfl, HB⟩ := hrel
    by_cases hlt : k < L.length
    · obtain ⟨g, rfl, -, hg, hc⟩ := H1.out (by omega)
      obtain ⟨g', rfl, -, hg', hc'⟩ := H2.out (by omega)
      have hx : ∀ o, o < 3 → wr.cell? ⟨g, k * 3 + o, none⟩ = some (grC (atG L k) o) := fun o ho => by rw [(bcell HB.out).1 _ _ hg]; exact (hc k hlt o ho).1
      have hx' : ∀ o, o < 3 → wr.cell? ⟨g', k * 3 + o, none⟩ = some (grC (atG L k) o) := fun o ho => by rw [(bcell HB.out).1 _ _ hg']; exact (hc' k hlt o ho).1
      have c0 : wr.cell? ⟨g, k * 3, none⟩ = some (.string (atG L k).tp) := hx 0 (by omega)
      have d0 : wr.cell? ⟨g', k * 3, none⟩ = some (.string (atG L k).tp) := hx' 0 (by omega)
      have c1 : wr.cell? ⟨g, k * 3 + 1, none⟩ = some (.string (atG L k).si) := hx 1 (by omega)
      have d1 : wr.cell? ⟨g', k * 3 + 1, none⟩ = some (.string (atG L k).si) := hx' 1 (by omega)
      have c2 : wr.cell? ⟨g, k * 3 + 2, none⟩ = some (.int .i64 (atG L k).un) := hx 2 (by omega)
      have d2 : wr.cell? ⟨g', k * 3 + 2, none⟩ = some (.int .i64 (atG L k).un) := hx' 2 (by omega)
      have k0 : (0 : Int) ≤ k := by omega
      have k1 : (k : Int) < L.length := by omega
      clear hc hc' hx hx'
      generalize atG L k = y at *
      obtain ⟨tp, si, un⟩ := y
      dsimp only at *
      go_wp2_with fail
      go_region_held3 (fun w' => w'.cell? ⟨g, k * 3, none⟩ = some (.string tp) ∧ w'.cell? ⟨g, k * 3 + 1, none⟩ = some (.string si) ∧ w'.cell? ⟨g, k * 3 + 2, none⟩ = some (.int .i64 un) ∧ w'.cell? ⟨g', k * 3, none⟩ = some (.string tp) ∧ w'.cell? ⟨g', k * 3 + 1, none⟩ = some (.string si) ∧ w'.cell? ⟨g', k * 3 + 2, none⟩ = some (.int .i64 un)) (go_keep) (fail)
      go_wp2
      go_roundw
      case rel => exact ⟨k + 1, by omega, by go_num, HB.out.trans (Below.drew (Below.refl _ _))⟩
      case measure => simp [intOf]; omega
    · go_wp2
      go_ret
      exact ⟨rfl, HB.out⟩
set_option maxRecDepth 10000 in
set_option maxHeartbeats 4000000 in
theorem lwGrant_any (a b : Value) (Z : GO) (B B' : Nat) (w : World) (ha : SliceG w B a Z.ar) (hb : SliceG w B' b Z.ar) (hn : Z.ar.length ≤ 1048576) (hr : Z.co = 0 → grantsB Z.ar = true) :
    Calls Try.prog 17 #[.agg #[a, .bool Z.us, .int .i64 Z.co], .agg #[b, .bool Z.us, .int .i64 Z.co]] w fun e w' => e = .returned (.bool true) ∧ Below w.heap.size w w' := by
  have KE : Hid (∀ W, Below w.heap.size w W → Calls Try.prog 20 #[a, b] W fun e w' => e = .returned (.bool true) ∧ Below W.heap.size W w') := fun W h => lwGrants_any a b Z.ar B B' W (ha.below h) (hb.below h) hn
  have KG : Hid (Z.co = 0 → ∀ W, Below w.heap.size w W → Calls Try.prog 27 #[a] W fun e w' => e = .returned (.bool true) ∧ Below W.heap.size W w') := fun h W hb => by
    have := specGrants_any a Z.ar B W (ha.below hb) hn
    rw [hr h] at this
    exact this
  obtain ⟨p, ca, hva⟩ : ∃ p ca, a = .slice p Z.ar.length ca := by obtain ⟨⟨p, cap, e, -⟩, -⟩ := ha; exact ⟨p, cap, e⟩
  obtain ⟨q, cb, hvb⟩ : ∃ q cb, b = .slice q Z.ar.length cb := by obtain ⟨⟨p, cap, e, -⟩, -⟩ := hb; exact ⟨p, cap, e⟩
  clear ha hb hr
  generalize Z.ar.length = m at *
  obtain ⟨za, zv, zc⟩ := Z
  dsimp only at *
  subst hva hvb
  obtain ⟨W0, hW⟩ : ∃ W0, W0 = (w.alloc (.cells #[.slice p m ca, .bool zv, .int .i64 zc] 27)).alloc (.cells #[.slice q m cb, .bool zv, .int .i64 zc] 27) := ⟨_, rfl⟩
  have hW0 : Hid (W0 = (w.alloc (.cells #[.slice p m ca, .bool zv, .int .i64 zc] 27)).alloc (.cells #[.slice q m cb, .bool zv, .int .i64 zc] 27)) := hW
  have B0 : Hid (Below w.heap.size w W0) := by
    show Below _ _ _
    rw [hW]; exact ((Below.refl _ _).alloc (Nat.le_refl _) _).alloc (by simp) _
  have c0 : W0.cell? ⟨w.heap.size, 0, none⟩ = some (.slice p m ca) := by rw [hW]; simp
  have c1 : W0.cell? ⟨w.heap.size, 1, none⟩ = some (.bool zv) := by rw [hW]; simp
  have c2 : W0.cell? ⟨w.heap.size, 2, none⟩ = some (.int .i64 zc) := by rw [hW]; simp
  have d0 : W0.cell? ⟨w.heap.size + 1, 0, none⟩ = some (.slice q m cb) := by rw [hW]; exact (World.cell?_alloc_at _ _ _ _ (by simp)).trans rfl
  have d1 : W0.cell? ⟨w.heap.size + 1, 1, none⟩ = some (.bool zv) := by rw [hW]; exact (World.cell?_alloc_at _ _ _ _ (by simp)).trans rfl
  have d2 : W0.cell? ⟨w.heap.size + 1, 2, none⟩ = some (.int .i64 zc) := by rw [hW]; exact (World.cell?_alloc_at _ _ _ _ (by simp)).trans rfl
  have z1 : w.heap.size + 1 < W0.heap.size := by rw [hW]; simp
  clear hW
  go_enter Try.func17, Try.ntmps17
  go_upto_region 1 with fail
  rw [← hW0.out]
  clear hW0
  generalize hbb : w.heap.size = b at *
  have z0 : b < W0.heap.size := by omega
  go_wp2_with fail
  refine (KE.out _ B0.out).mono ?_
  rintro e w1 ⟨rfl, hb1⟩
  have e0 : w1.cell? ⟨b, 0, none⟩ = some (.slice p m ca) := ((bcell hb1).1 _ _ z0).trans c0
  have e2 : w1.cell? ⟨b, 2, none⟩ = some (.int .i64 zc) := ((bcell hb1).1 _ _ z0).trans c2
  have B1 : Hid (Below b w w1) := B0.out.trans (hb1.mono (by omega))
  have z2 : b ≤ w1.heap.size := by have := hb1.size; omega
  clear hb1 c0 c1 c2 d0 d1 d2 KE B0
  by_cases hz : zc = 0
  · have KG1 := KG.out hz
    clear KG
    subst hz
    go_wp2_with fail
    refine (KG1 _ B1.out).mono ?_
    rintro e w2 ⟨rfl, hb2⟩
    have B2 : Hid (Below b w w2) := B1.out.trans (hb2.mono z2)
    clear hb2 e0 e2 B1 KG1
    go_wp2
    go_ret
    exact ⟨rfl, by rw [hbb]; exact B2.out⟩
  · have q1 : decide (zc = 0) = false := by rw [decide_eq_false_iff_not]; exact hz
    go_wp2
    go_ret
    exact ⟨rfl, by rw [hbb]; exact B1.out⟩
end Go.Proofs.Ytecaeolgheefmaa

/- The walk of the program's GrantsRight. Written by implgrants.py. -/
namespace Go.Proofs.Ytecaeolgheefmaa
open Go.RowKit

set_option maxRecDepth 10000 in
set_option maxHeartbeats 8000000 in
theorem grantsRight_any (v : Value) (L : List Gr) (B : Nat) (w : World) (hs : SliceG w B v L) (hn : L.length ≤ 1048576) :
    Calls Try.prog 26 #[v] w fun e w' => e = .returned (.bool (grantsB L)) ∧ Below w.heap.size w w' := by
  have HLong : Hid (8 < L.length → grantsB L = false) := grantsB_long
  have HAll : Hid ((∀ i, i < L.length → okG L i = true) → grantsB L = decide (L.length ≤ 8)) := fun h => grantsB_all h
  have HBad : Hid (∀ i, i < L.length → okG L i = false → grantsB L = false) := fun i h hi => grantsB_at i h hi
  obtain ⟨⟨p, cap, rfl, hg⟩, -⟩ := hs
  have HG : Hid (0 < L.length → ∃ g, p = some ⟨g, 0, none⟩ ∧ g < w.heap.size ∧ ∀ j, j < L.length → ∀ o, o < 3 → w.cell? ⟨g, j * 3 + o, none⟩ = some (grC (atG L j) o)) := fun h0 => by
    obtain ⟨g, e, -, hgw, hc⟩ := hg h0
    exact ⟨g, e, hgw, fun j hj o ho => (hc j hj o ho).1⟩
  clear hg
  generalize grantsB L = R at *
  by_cases h16 : 8 < L.length
  · have HQ : Hid (R = false) := HLong.out h16
    have q0 : decide ((8 : Int) < (L.length : Int)) = true := by rw [decide_eq_true_iff]; omega
    go_enter Try.func26, Try.ntmps26
    go_wp2
    go_ret
    exact ⟨ret_bool HQ.out.symm, Below.refl _ _⟩
  have q0 : decide ((8 : Int) < (L.length : Int)) = false := by rw [decide_eq_false_iff_not]; omega
  have HAll2 : Hid ((∀ i, i < L.length → okG L i = true) → R = true) := fun h => by rw [HAll.out h, decide_eq_true (by omega)]
  clear HAll HLong
  go_enter Try.func26, Try.ntmps26
  go_wp2
  go_loopw [10] (fun i wr => ∃ k : Nat, k ≤ L.length ∧ i = .int .i64 k ∧ Hid (∀ j, j < k → okG L j = true) ∧ Hid (Below w.heap.size w wr)) (fun i _ => L.length - (intOf i).toNat)
  case atStart => exact ⟨0, Nat.zero_le _, rfl, fun j hj => absurd hj (by omega), Below.refl _ _⟩
  case round =>
    obtain ⟨k, hk, rfl, HR, HB⟩ := hrel
    by_cases hlt : k < L.length
    · obtain ⟨g, rfl, hgw, hc⟩ := HG.out (by omega)
      have HC : Hid (∀ j, j < L.length → ∀ o, o < 3 → wr.cell? ⟨g, j * 3 + o, none⟩ = some (grC (atG L j) o)) := fun j hj o ho => by rw [(bcell HB.out).1 _ _ hgw]; exact hc j hj o ho
      have hgr : g < wr.heap.size := Nat.lt_of_lt_of_le hgw HB.out.size
      have k0 : (0 : Int) ≤ k := by omega
      have k1 : (k : Int) < L.length := by omega
      have HBk : Hid (okG L k = false → R = false) := HBad.out k hlt
      have e0 : wr.cell? ⟨g, k * 3, none⟩ = some (.string (atG L k).tp) := HC.out k hlt 0 (by omega)
      have e1 : wr.cell? ⟨g, k * 3 + 1, none⟩ = some (.string (atG L k).si) := HC.out k hlt 1 (by omega)
      have e2 : wr.cell? ⟨g, k * 3 + 2, none⟩ = some (.int .i64 (atG L k).un) := HC.out k hlt 2 (by omega)
      have KE0 : Hid (∀ W, Calls Try.prog 67 #[grV (atG L k)] W fun r w' => r = .returned (.bool (grB (atG L k))) ∧ Below W.heap.size W w') := fun W => grantRight_any _ W
      clear hc HG HBad
      cases hkb : grB (atG L k) with
      | false =>
        have HQ : Hid (R = false) := HBk.out (okG_no hkb)
        rw [hkb] at KE0
        clear hkb HBk HC HR
        generalize atG L k = y at *
        obtain ⟨ke, na, va⟩ := y
        unfold grV at KE0
        dsimp only at *
        have KE : Hid (∀ W, Calls Try.prog 67 #[.agg #[.string ke, .string na, .int .i64 va]] W fun r w' => r = .returned (.bool false) ∧ Below W.heap.size W w') := KE0
        clear KE0
        obtain ⟨W0, hW⟩ : ∃ W0, W0 = wr.alloc (.cells #[.string ke, .string na, .int .i64 va] 64) := ⟨_, rfl⟩
        have hW0 : Hid (W0 = wr.alloc (.cells #[.string ke, .string na, .int .i64 va] 64)) := hW
        have HBW : Hid (Below w.heap.size w W0) := by show Below _ _ _; rw [hW]; exact HB.out.alloc HB.out.size _
        have HBr : Hid (Below wr.heap.size wr W0) := by show Below _ _ _; rw [hW]; exact (Below.refl _ _).alloc (Nat.le_refl _) _
        have c0 : W0.cell? ⟨wr.heap.size, 0, none⟩ = some (.string ke) := by rw [hW]; simp
        have c1 : W0.cell? ⟨wr.heap.size, 1, none⟩ = some (.string na) := by rw [hW]; simp
        have c2 : W0.cell? ⟨wr.heap.size, 2, none⟩ = some (.int .i64 va) := by rw [hW]; simp
        have hbW : wr.heap.size < W0.heap.size := by rw [hW]; simp
        have hgW : g < W0.heap.size := Nat.lt_trans hgr hbW
        clear hW
        go_wp2_with fail
        rw [← hW0.out]
        clear hW0
        generalize hbb : wr.heap.size = b at *
        clear hbb HBr HB e0 e1 e2 
        refine wp_region_held_drew (S := (fun w' => w'.cell? ⟨b, 0, none⟩ = some (.string ke) ∧ w'.cell? ⟨b, 1, none⟩ = some (.string na) ∧ w'.cell? ⟨b, 2, none⟩ = some (.int .i64 va))) (by kernel_rfl) ?_ (fun hH0 => ?_)
        · (try dsimp only)
          go_keep
        refine wpAnyH_take (i := 0) (oi := { dst := some 15, op := Op.load 64 (Operand.tmp 4), type := 64, pos := "l08_grant.go:48", after := #[], guard := none }) (v := ?va0) rfl (by kernel_rfl) (by kernel_rfl) (by kernel_rfl) (fun _ _ _ h => h) (Or.inl ⟨by rfl, ?hya0⟩) (by assumption) ?resta0
        case hya0 =>
          intro w hSw
          (try dsimp only at hSw)
          go_simp
          try with_reducible rfl
        try simp only [Act.put, List.setIfInBounds_toArray, List.set_cons_zero, List.set_cons_succ]
        refine wpAnyH_ready (rs := [1]) (by kernel_rfl) (by simp) ?_
        refine AllReadyH.cons (o := { dst := some 16, op := Op.call { callee := Callee.value (Operand.func 67), args := #[Operand.tmp 15], argTypes := #[64] }, type := 4, pos := "l08_grant.go:48", after := #[{ on := 0, ground := Ground.data }], guard := none }) rfl (fun K hK => ?_) AllReadyH.nil
        go_simp
        (go_at_call 67; refine (KE.out _).mono ?_; rintro e w2 ⟨rfl, hb2⟩; have A2 : Below W0.heap.size W0 w2 := (Below.drew (Below.refl _ _)).trans hb2; have x0 : w2.cell? ⟨b, 0, none⟩ = some (.string ke) := ((bcell A2).1 _ _ hbW).trans c0; have x1 : w2.cell? ⟨b, 1, none⟩ = some (.string na) := ((bcell A2).1 _ _ hbW).trans c1; have x2 : w2.cell? ⟨b, 2, none⟩ = some (.int .i64 va) := ((bcell A2).1 _ _ hbW).trans c2)
        try (go_wp2_with fail)
        refine hK.out _ _ ?_ (fun hH1 => ?_)
        · (try dsimp only)
          go_keep
        clear hK K hH0
        try simp only [Act.put, List.setIfInBounds_toArray, List.set_cons_zero, List.set_cons_succ]
        refine wpAnyH_take (i := 2) (oi := { dst := some 17, op := Op.unOp UnOp.not 4 (Operand.tmp 16), type := 4, pos := "l08_grant.go:48", after := #[{ on := 1, ground := Ground.data }], guard := none }) (v := ?va2) rfl (by kernel_rfl) (by kernel_rfl) (by kernel_rfl) (fun _ _ _ h => h) (Or.inl ⟨by rfl, ?hya2⟩) (by assumption) ?resta2
        case hya2 =>
          intro w hSw
          (try dsimp only at hSw)
          go_simp
          try with_reducible rfl
        try simp only [Act.put, List.setIfInBounds_toArray, List.set_cons_zero, List.set_cons_succ]
        refine wpAnyH_take (i := 3) (oi := { dst := some 18, op := Op.move (Operand.tmp 17), type := 4, pos := "l08_grant.go:48", after := #[{ on := 2, ground := Ground.data }, { on := 1, ground := Ground.chain }], guard := none }) (v := ?va3) rfl (by kernel_rfl) (by kernel_rfl) (by kernel_rfl) (fun _ _ _ h => h) (Or.inl ⟨by rfl, ?hya3⟩) (by assumption) ?resta3
        case hya3 =>
          intro w hSw
          (try dsimp only at hSw)
          go_simp
          try with_reducible rfl
        try simp only [Act.put, List.setIfInBounds_toArray, List.set_cons_zero, List.set_cons_succ]
        refine wpAnyH_take (i := 4) (oi := { dst := some 19, op := Op.move (Operand.tmp 3), type := 3, pos := "l08_grant.go:48", after := #[{ on := 3, ground := Ground.guard }], guard := some (3, false) }) (v := undef) rfl (by kernel_rfl) (by kernel_rfl) (by kernel_rfl) (fun _ _ _ h => h) (Or.inr ⟨by rfl, rfl⟩) (by assumption) ?_
        try simp only [Act.put, List.setIfInBounds_toArray, List.set_cons_zero, List.set_cons_succ]
        refine wpAnyH_take (i := 5) (oi := { dst := some 20, op := Op.binOp BinOp.gtr 3 (Operand.tmp 19) (Operand.const (Value.int IntKind.i64 0)) 3, type := 4, pos := "l08_grant.go:48", after := #[{ on := 4, ground := Ground.data }, { on := 3, ground := Ground.guard }], guard := some (3, false) }) (v := undef) rfl (by kernel_rfl) (by kernel_rfl) (by kernel_rfl) (fun _ _ _ h => h) (Or.inr ⟨by rfl, rfl⟩) (by assumption) ?_
        try simp only [Act.put, List.setIfInBounds_toArray, List.set_cons_zero, List.set_cons_succ]
        refine wpAnyH_take (i := 6) (oi := { dst := some 21, op := Op.move (Operand.tmp 20), type := 4, pos := "l08_grant.go:48", after := #[{ on := 5, ground := Ground.data }, { on := 3, ground := Ground.chain }, { on := 3, ground := Ground.guard }], guard := some (3, false) }) (v := undef) rfl (by kernel_rfl) (by kernel_rfl) (by kernel_rfl) (fun _ _ _ h => h) (Or.inr ⟨by rfl, rfl⟩) (by assumption) ?_
        try simp only [Act.put, List.setIfInBounds_toArray, List.set_cons_zero, List.set_cons_succ]
        refine wpAnyH_take (i := 7) (oi := { dst := some 22, op := Op.move (Operand.tmp 0), type := 23, pos := "l08_grant.go:48", after := #[{ on := 6, ground := Ground.guard }], guard := some (6, true) }) (v := undef) rfl (by kernel_rfl) (by kernel_rfl) (by kernel_rfl) (fun _ _ _ h => h) (Or.inr ⟨by rfl, rfl⟩) (by assumption) ?_
        try simp only [Act.put, List.setIfInBounds_toArray, List.set_cons_zero, List.set_cons_succ]
        refine wpAnyH_take (i := 8) (oi := { dst := some 23, op := Op.move (Operand.tmp 3), type := 3, pos := "l08_grant.go:48", after := #[{ on := 6, ground := Ground.guard }], guard := some (6, true) }) (v := undef) rfl (by kernel_rfl) (by kernel_rfl) (by kernel_rfl) (fun _ _ _ h => h) (Or.inr ⟨by rfl, rfl⟩) (by assumption) ?_
        try simp only [Act.put, List.setIfInBounds_toArray, List.set_cons_zero, List.set_cons_succ]
        refine wpAnyH_take (i := 9) (oi := { dst := some 24, op := Op.binOp BinOp.sub 3 (Operand.tmp 23) (Operand.const (Value.int IntKind.i64 1)) 3, type := 3, pos := "l08_grant.go:48", after := #[{ on := 8, ground := Ground.data }, { on := 6, ground := Ground.guard }], guard := some (6, true) }) (v := undef) rfl (by kernel_rfl) (by kernel_rfl) (by kernel_rfl) (fun _ _ _ h => h) (Or.inr ⟨by rfl, rfl⟩) (by assumption) ?_
        try simp only [Act.put, List.setIfInBounds_toArray, List.set_cons_zero, List.set_cons_succ]
        refine wpAnyH_take (i := 10) (oi := { dst := some 25, op := Op.indexAddr 23 (Operand.tmp 22) (Operand.tmp 24), type := 0, pos := "l08_grant.go:48", after := #[{ on := 7, ground := Ground.data }, { on := 9, ground := Ground.data }, { on := 6, ground := Ground.guard }], guard := some (6, true) }) (v := undef) rfl (by kernel_rfl) (by kernel_rfl) (by kernel_rfl) (fun _ _ _ h => h) (Or.inr ⟨by rfl, rfl⟩) (by assumption) ?_
        try simp only [Act.put, List.setIfInBounds_toArray, List.set_cons_zero, List.set_cons_succ]
        refine wpAnyH_take (i := 11) (oi := { dst := some 26, op := Op.load 64 (Operand.tmp 25), type := 64, pos := "l08_grant.go:48", after := #[{ on := 10, ground := Ground.data }, { on := 6, ground := Ground.guard }], guard := some (6, true) }) (v := undef) rfl (by kernel_rfl) (by kernel_rfl) (by kernel_rfl) (fun _ _ _ h => h) (Or.inr ⟨by rfl, rfl⟩) (by assumption) ?_
        try simp only [Act.put, List.setIfInBounds_toArray, List.set_cons_zero, List.set_cons_succ]
        refine wpAnyH_take (i := 12) (oi := { dst := some 27, op := Op.load 64 (Operand.tmp 4), type := 64, pos := "l08_grant.go:48", after := #[{ on := 6, ground := Ground.guard }], guard := some (6, true) }) (v := undef) rfl (by kernel_rfl) (by kernel_rfl) (by kernel_rfl) (fun _ _ _ h => h) (Or.inr ⟨by rfl, rfl⟩) (by assumption) ?_
        try simp only [Act.put, List.setIfInBounds_toArray, List.set_cons_zero, List.set_cons_succ]
        refine wpAnyH_take (i := 13) (oi := { dst := some 28, op := Op.call { callee := Callee.value (Operand.func 48), args := #[Operand.tmp 26, Operand.tmp 27], argTypes := #[64, 64] }, type := 3, pos := "l08_grant.go:48", after := #[{ on := 11, ground := Ground.data }, { on := 12, ground := Ground.data }, { on := 6, ground := Ground.chain }, { on := 6, ground := Ground.guard }], guard := some (6, true) }) (v := undef) rfl (by kernel_rfl) (by kernel_rfl) (by kernel_rfl) (fun _ _ _ h => h) (Or.inr ⟨by rfl, rfl⟩) (by assumption) ?_
        try simp only [Act.put, List.setIfInBounds_toArray, List.set_cons_zero, List.set_cons_succ]
        refine wpAnyH_take (i := 14) (oi := { dst := some 29, op := Op.binOp BinOp.geq 3 (Operand.tmp 28) (Operand.const (Value.int IntKind.i64 0)) 3, type := 4, pos := "l08_grant.go:48", after := #[{ on := 13, ground := Ground.data }, { on := 6, ground := Ground.guard }], guard := some (6, true) }) (v := undef) rfl (by kernel_rfl) (by kernel_rfl) (by kernel_rfl) (fun _ _ _ h => h) (Or.inr ⟨by rfl, rfl⟩) (by assumption) ?_
        try simp only [Act.put, List.setIfInBounds_toArray, List.set_cons_zero, List.set_cons_succ]
        refine wpAnyH_take (i := 15) (oi := { dst := some 30, op := Op.pick (Operand.tmp 21) (Operand.tmp 29) (Operand.const (Value.bool false)), type := 4, pos := "l08_grant.go:48", after := #[{ on := 6, ground := Ground.data }, { on := 14, ground := Ground.data }, { on := 3, ground := Ground.guard }], guard := some (3, false) }) (v := undef) rfl (by kernel_rfl) (by kernel_rfl) (by kernel_rfl) (fun _ _ _ h => h) (Or.inr ⟨by rfl, rfl⟩) (by assumption) ?_
        try simp only [Act.put, List.setIfInBounds_toArray, List.set_cons_zero, List.set_cons_succ]
        refine wpAnyH_take (i := 16) (oi := { dst := some 31, op := Op.pick (Operand.tmp 18) (Operand.const (Value.bool true)) (Operand.tmp 30), type := 4, pos := "l08_grant.go:48", after := #[{ on := 3, ground := Ground.data }, { on := 15, ground := Ground.data }], guard := none }) (v := ?va16) rfl (by kernel_rfl) (by kernel_rfl) (by kernel_rfl) (fun _ _ _ h => h) (Or.inl ⟨by rfl, ?hya16⟩) (by assumption) ?resta16
        case hya16 =>
          intro w hSw
          (try dsimp only at hSw)
          go_simp
          try with_reducible rfl
        try simp only [Act.put, List.setIfInBounds_toArray, List.set_cons_zero, List.set_cons_succ]
        refine wpAnyH_done (by kernel_rfl) ?_ _
        go_wp2
        go_ret
        exact ⟨ret_bool HQ.out.symm, HBW.out.trans (A2.mono HBW.out.size)⟩
      | true =>
      rw [hkb] at KE0
      cases k with
      | zero =>
        have HSt : Hid (∀ j, j < 0 + 1 → okG L j = true) := okG_succ HR.out (okG_first hkb)
        clear HBk HC HR hkb
        have q1 : decide ((0 : Int) < (0 : Int)) = false := rfl
        rw [Nat.zero_mul] at e0
        rw [Nat.zero_mul, Nat.zero_add] at e1 e2
        generalize atG L 0 = y at *
        obtain ⟨ke, na, va⟩ := y
        unfold grV at KE0
        dsimp only at *
        have KE : Hid (∀ W, Calls Try.prog 67 #[.agg #[.string ke, .string na, .int .i64 va]] W fun r w' => r = .returned (.bool true) ∧ Below W.heap.size W w') := KE0
        clear KE0
        obtain ⟨W0, hW⟩ : ∃ W0, W0 = wr.alloc (.cells #[.string ke, .string na, .int .i64 va] 64) := ⟨_, rfl⟩
        have hW0 : Hid (W0 = wr.alloc (.cells #[.string ke, .string na, .int .i64 va] 64)) := hW
        have HBW : Hid (Below w.heap.size w W0) := by show Below _ _ _; rw [hW]; exact HB.out.alloc HB.out.size _
        have HBr : Hid (Below wr.heap.size wr W0) := by show Below _ _ _; rw [hW]; exact (Below.refl _ _).alloc (Nat.le_refl _) _
        have c0 : W0.cell? ⟨wr.heap.size, 0, none⟩ = some (.string ke) := by rw [hW]; simp
        have c1 : W0.cell? ⟨wr.heap.size, 1, none⟩ = some (.string na) := by rw [hW]; simp
        have c2 : W0.cell? ⟨wr.heap.size, 2, none⟩ = some (.int .i64 va) := by rw [hW]; simp
        have hbW : wr.heap.size < W0.heap.size := by rw [hW]; simp
        have hgW : g < W0.heap.size := Nat.lt_trans hgr hbW
        clear hW
        go_wp2_with fail
        rw [← hW0.out]
        clear hW0
        generalize hbb : wr.heap.size = b at *
        clear hbb HBr HB e0 e1 e2 
        refine wp_region_held_drew (S := (fun w' => w'.cell? ⟨b, 0, none⟩ = some (.string ke) ∧ w'.cell? ⟨b, 1, none⟩ = some (.string na) ∧ w'.cell? ⟨b, 2, none⟩ = some (.int .i64 va))) (by kernel_rfl) ?_ (fun hH0 => ?_)
        · (try dsimp only)
          go_keep
        refine wpAnyH_take (i := 0) (oi := { dst := some 15, op := Op.load 64 (Operand.tmp 4), type := 64, pos := "l08_grant.go:48", after := #[], guard := none }) (v := ?vb0) rfl (by kernel_rfl) (by kernel_rfl) (by kernel_rfl) (fun _ _ _ h => h) (Or.inl ⟨by rfl, ?hyb0⟩) (by assumption) ?restb0
        case hyb0 =>
          intro w hSw
          (try dsimp only at hSw)
          go_simp
          try with_reducible rfl
        try simp only [Act.put, List.setIfInBounds_toArray, List.set_cons_zero, List.set_cons_succ]
        refine wpAnyH_ready (rs := [1]) (by kernel_rfl) (by simp) ?_
        refine AllReadyH.cons (o := { dst := some 16, op := Op.call { callee := Callee.value (Operand.func 67), args := #[Operand.tmp 15], argTypes := #[64] }, type := 4, pos := "l08_grant.go:48", after := #[{ on := 0, ground := Ground.data }], guard := none }) rfl (fun K hK => ?_) AllReadyH.nil
        go_simp
        (go_at_call 67; refine (KE.out _).mono ?_; rintro e w2 ⟨rfl, hb2⟩; have A2 : Below W0.heap.size W0 w2 := (Below.drew (Below.refl _ _)).trans hb2; have x0 : w2.cell? ⟨b, 0, none⟩ = some (.string ke) := ((bcell A2).1 _ _ hbW).trans c0; have x1 : w2.cell? ⟨b, 1, none⟩ = some (.string na) := ((bcell A2).1 _ _ hbW).trans c1; have x2 : w2.cell? ⟨b, 2, none⟩ = some (.int .i64 va) := ((bcell A2).1 _ _ hbW).trans c2)
        try (go_wp2_with fail)
        refine hK.out _ _ ?_ (fun hH1 => ?_)
        · (try dsimp only)
          go_keep
        clear hK K hH0
        try simp only [Act.put, List.setIfInBounds_toArray, List.set_cons_zero, List.set_cons_succ]
        refine wpAnyH_take (i := 2) (oi := { dst := some 17, op := Op.unOp UnOp.not 4 (Operand.tmp 16), type := 4, pos := "l08_grant.go:48", after := #[{ on := 1, ground := Ground.data }], guard := none }) (v := ?vb2) rfl (by kernel_rfl) (by kernel_rfl) (by kernel_rfl) (fun _ _ _ h => h) (Or.inl ⟨by rfl, ?hyb2⟩) (by assumption) ?restb2
        case hyb2 =>
          intro w hSw
          (try dsimp only at hSw)
          go_simp
          try with_reducible rfl
        try simp only [Act.put, List.setIfInBounds_toArray, List.set_cons_zero, List.set_cons_succ]
        refine wpAnyH_take (i := 3) (oi := { dst := some 18, op := Op.move (Operand.tmp 17), type := 4, pos := "l08_grant.go:48", after := #[{ on := 2, ground := Ground.data }, { on := 1, ground := Ground.chain }], guard := none }) (v := ?vb3) rfl (by kernel_rfl) (by kernel_rfl) (by kernel_rfl) (fun _ _ _ h => h) (Or.inl ⟨by rfl, ?hyb3⟩) (by assumption) ?restb3
        case hyb3 =>
          intro w hSw
          (try dsimp only at hSw)
          go_simp
          try with_reducible rfl
        try simp only [Act.put, List.setIfInBounds_toArray, List.set_cons_zero, List.set_cons_succ]
        refine wpAnyH_take (i := 4) (oi := { dst := some 19, op := Op.move (Operand.tmp 3), type := 3, pos := "l08_grant.go:48", after := #[{ on := 3, ground := Ground.guard }], guard := some (3, false) }) (v := ?vb4) rfl (by kernel_rfl) (by kernel_rfl) (by kernel_rfl) (fun _ _ _ h => h) (Or.inl ⟨by rfl, ?hyb4⟩) (by assumption) ?restb4
        case hyb4 =>
          intro w hSw
          (try dsimp only at hSw)
          go_simp
          try with_reducible rfl
        try simp only [Act.put, List.setIfInBounds_toArray, List.set_cons_zero, List.set_cons_succ]
        refine wpAnyH_take (i := 5) (oi := { dst := some 20, op := Op.binOp BinOp.gtr 3 (Operand.tmp 19) (Operand.const (Value.int IntKind.i64 0)) 3, type := 4, pos := "l08_grant.go:48", after := #[{ on := 4, ground := Ground.data }, { on := 3, ground := Ground.guard }], guard := some (3, false) }) (v := ?vb5) rfl (by kernel_rfl) (by kernel_rfl) (by kernel_rfl) (fun _ _ _ h => h) (Or.inl ⟨by rfl, ?hyb5⟩) (by assumption) ?restb5
        case hyb5 =>
          intro w hSw
          (try dsimp only at hSw)
          go_simp
          try with_reducible rfl
        try simp only [Act.put, List.setIfInBounds_toArray, List.set_cons_zero, List.set_cons_succ]
        refine wpAnyH_take (i := 6) (oi := { dst := some 21, op := Op.move (Operand.tmp 20), type := 4, pos := "l08_grant.go:48", after := #[{ on := 5, ground := Ground.data }, { on := 3, ground := Ground.chain }, { on := 3, ground := Ground.guard }], guard := some (3, false) }) (v := ?vb6) rfl (by kernel_rfl) (by kernel_rfl) (by kernel_rfl) (fun _ _ _ h => h) (Or.inl ⟨by rfl, ?hyb6⟩) (by assumption) ?restb6
        case hyb6 =>
          intro w hSw
          (try dsimp only at hSw)
          go_simp
          try with_reducible rfl
        try simp only [Act.put, List.setIfInBounds_toArray, List.set_cons_zero, List.set_cons_succ]
        refine wpAnyH_take (i := 7) (oi := { dst := some 22, op := Op.move (Operand.tmp 0), type := 23, pos := "l08_grant.go:48", after := #[{ on := 6, ground := Ground.guard }], guard := some (6, true) }) (v := undef) rfl (by kernel_rfl) (by kernel_rfl) (by kernel_rfl) (fun _ _ _ h => h) (Or.inr ⟨by rfl, rfl⟩) (by assumption) ?_
        try simp only [Act.put, List.setIfInBounds_toArray, List.set_cons_zero, List.set_cons_succ]
        refine wpAnyH_take (i := 8) (oi := { dst := some 23, op := Op.move (Operand.tmp 3), type := 3, pos := "l08_grant.go:48", after := #[{ on := 6, ground := Ground.guard }], guard := some (6, true) }) (v := undef) rfl (by kernel_rfl) (by kernel_rfl) (by kernel_rfl) (fun _ _ _ h => h) (Or.inr ⟨by rfl, rfl⟩) (by assumption) ?_
        try simp only [Act.put, List.setIfInBounds_toArray, List.set_cons_zero, List.set_cons_succ]
        refine wpAnyH_take (i := 9) (oi := { dst := some 24, op := Op.binOp BinOp.sub 3 (Operand.tmp 23) (Operand.const (Value.int IntKind.i64 1)) 3, type := 3, pos := "l08_grant.go:48", after := #[{ on := 8, ground := Ground.data }, { on := 6, ground := Ground.guard }], guard := some (6, true) }) (v := undef) rfl (by kernel_rfl) (by kernel_rfl) (by kernel_rfl) (fun _ _ _ h => h) (Or.inr ⟨by rfl, rfl⟩) (by assumption) ?_
        try simp only [Act.put, List.setIfInBounds_toArray, List.set_cons_zero, List.set_cons_succ]
        refine wpAnyH_take (i := 10) (oi := { dst := some 25, op := Op.indexAddr 23 (Operand.tmp 22) (Operand.tmp 24), type := 0, pos := "l08_grant.go:48", after := #[{ on := 7, ground := Ground.data }, { on := 9, ground := Ground.data }, { on := 6, ground := Ground.guard }], guard := some (6, true) }) (v := undef) rfl (by kernel_rfl) (by kernel_rfl) (by kernel_rfl) (fun _ _ _ h => h) (Or.inr ⟨by rfl, rfl⟩) (by assumption) ?_
        try simp only [Act.put, List.setIfInBounds_toArray, List.set_cons_zero, List.set_cons_succ]
        refine wpAnyH_take (i := 11) (oi := { dst := some 26, op := Op.load 64 (Operand.tmp 25), type := 64, pos := "l08_grant.go:48", after := #[{ on := 10, ground := Ground.data }, { on := 6, ground := Ground.guard }], guard := some (6, true) }) (v := undef) rfl (by kernel_rfl) (by kernel_rfl) (by kernel_rfl) (fun _ _ _ h => h) (Or.inr ⟨by rfl, rfl⟩) (by assumption) ?_
        try simp only [Act.put, List.setIfInBounds_toArray, List.set_cons_zero, List.set_cons_succ]
        refine wpAnyH_take (i := 12) (oi := { dst := some 27, op := Op.load 64 (Operand.tmp 4), type := 64, pos := "l08_grant.go:48", after := #[{ on := 6, ground := Ground.guard }], guard := some (6, true) }) (v := undef) rfl (by kernel_rfl) (by kernel_rfl) (by kernel_rfl) (fun _ _ _ h => h) (Or.inr ⟨by rfl, rfl⟩) (by assumption) ?_
        try simp only [Act.put, List.setIfInBounds_toArray, List.set_cons_zero, List.set_cons_succ]
        refine wpAnyH_take (i := 13) (oi := { dst := some 28, op := Op.call { callee := Callee.value (Operand.func 48), args := #[Operand.tmp 26, Operand.tmp 27], argTypes := #[64, 64] }, type := 3, pos := "l08_grant.go:48", after := #[{ on := 11, ground := Ground.data }, { on := 12, ground := Ground.data }, { on := 6, ground := Ground.chain }, { on := 6, ground := Ground.guard }], guard := some (6, true) }) (v := undef) rfl (by kernel_rfl) (by kernel_rfl) (by kernel_rfl) (fun _ _ _ h => h) (Or.inr ⟨by rfl, rfl⟩) (by assumption) ?_
        try simp only [Act.put, List.setIfInBounds_toArray, List.set_cons_zero, List.set_cons_succ]
        refine wpAnyH_take (i := 14) (oi := { dst := some 29, op := Op.binOp BinOp.geq 3 (Operand.tmp 28) (Operand.const (Value.int IntKind.i64 0)) 3, type := 4, pos := "l08_grant.go:48", after := #[{ on := 13, ground := Ground.data }, { on := 6, ground := Ground.guard }], guard := some (6, true) }) (v := undef) rfl (by kernel_rfl) (by kernel_rfl) (by kernel_rfl) (fun _ _ _ h => h) (Or.inr ⟨by rfl, rfl⟩) (by assumption) ?_
        try simp only [Act.put, List.setIfInBounds_toArray, List.set_cons_zero, List.set_cons_succ]
        refine wpAnyH_take (i := 15) (oi := { dst := some 30, op := Op.pick (Operand.tmp 21) (Operand.tmp 29) (Operand.const (Value.bool false)), type := 4, pos := "l08_grant.go:48", after := #[{ on := 6, ground := Ground.data }, { on := 14, ground := Ground.data }, { on := 3, ground := Ground.guard }], guard := some (3, false) }) (v := ?vb15) rfl (by kernel_rfl) (by kernel_rfl) (by kernel_rfl) (fun _ _ _ h => h) (Or.inl ⟨by rfl, ?hyb15⟩) (by assumption) ?restb15
        case hyb15 =>
          intro w hSw
          (try dsimp only at hSw)
          go_simp
          try with_reducible rfl
        try simp only [Act.put, List.setIfInBounds_toArray, List.set_cons_zero, List.set_cons_succ]
        refine wpAnyH_take (i := 16) (oi := { dst := some 31, op := Op.pick (Operand.tmp 18) (Operand.const (Value.bool true)) (Operand.tmp 30), type := 4, pos := "l08_grant.go:48", after := #[{ on := 3, ground := Ground.data }, { on := 15, ground := Ground.data }], guard := none }) (v := ?vb16) rfl (by kernel_rfl) (by kernel_rfl) (by kernel_rfl) (fun _ _ _ h => h) (Or.inl ⟨by rfl, ?hyb16⟩) (by assumption) ?restb16
        case hyb16 =>
          intro w hSw
          (try dsimp only at hSw)
          go_simp
          try with_reducible rfl
        try simp only [Act.put, List.setIfInBounds_toArray, List.set_cons_zero, List.set_cons_succ]
        refine wpAnyH_done (by kernel_rfl) ?_ _
        have BN : Hid (Below w.heap.size w w2) := HBW.out.trans (A2.mono HBW.out.size)
        go_wp2
        go_roundw
        case rel => exact ⟨1, by omega, by go_num, HSt, BN⟩
        case measure => simp [intOf]; omega
      | succ m =>
        have hm : m < L.length := by omega
        have d0' : wr.cell? ⟨g, m * 3, none⟩ = some (.string (atG L m).tp) := HC.out m hm 0 (by omega)
        have d1' : wr.cell? ⟨g, m * 3 + 1, none⟩ = some (.string (atG L m).si) := HC.out m hm 1 (by omega)
        have d2' : wr.cell? ⟨g, m * 3 + 2, none⟩ = some (.int .i64 (atG L m).un) := HC.out m hm 2 (by omega)
        have KO0 : Hid (∀ W, Calls Try.prog 48 #[grV (atG L m), grV (atG L (m + 1))] W fun e w' => e = .returned (.int .i64 (ordG (atG L m) (atG L (m + 1)))) ∧ Below W.heap.size W w') := fun W => grantOrder_any _ _ W
        have HRi : Hid (decide (0 ≤ ordG (atG L m) (atG L (m + 1))) = !(grLess (atG L m) (atG L (m + 1)))) := ordG_neg _ _
        have HYs : Hid (grLess (atG L m) (atG L (m + 1)) = true → ∀ j, j < m + 1 + 1 → okG L j = true) := fun h => okG_succ HR.out (okG_next hkb h)
        have HNs : Hid (grLess (atG L m) (atG L (m + 1)) = false → R = false) := fun h => HBk.out (okG_flat h)
        clear HC HBk HR hkb
        have q1 : decide ((0 : Int) < ((m : Int) + 1)) = true := by rw [decide_eq_true_iff]; omega
        have hw1 : IntKind.i64.wrap ((m : Int) + 1 - 1) = m := by rw [IntKind.wrap_i64]; omega
        have hw2 : IntKind.i64.wrap (m : Int) = m := by rw [IntKind.wrap_i64]; omega
        have p0 : (0 : Int) ≤ (m : Int) + 1 := by omega
        have p1 : (m : Int) + 1 < L.length := by omega
        have m0 : (0 : Int) ≤ m := by omega
        have m1 : (m : Int) < L.length := by omega
        generalize ordG (atG L m) (atG L (m + 1)) = O at *
        generalize hls : grLess (atG L m) (atG L (m + 1)) = ls at *
        clear hls
        generalize atG L (m + 1) = y at *
        generalize atG L m = z at *
        obtain ⟨ke, na, va⟩ := y
        obtain ⟨pk, pn, pv⟩ := z
        unfold grV at KE0 KO0
        dsimp only at *
        have KE : Hid (∀ W, Calls Try.prog 67 #[.agg #[.string ke, .string na, .int .i64 va]] W fun r w' => r = .returned (.bool true) ∧ Below W.heap.size W w') := KE0
        have KO : Hid (∀ W, Calls Try.prog 48 #[.agg #[.string pk, .string pn, .int .i64 pv], .agg #[.string ke, .string na, .int .i64 va]] W fun e w' => e = .returned (.int .i64 O) ∧ Below W.heap.size W w') := KO0
        clear KE0 KO0
        obtain ⟨W0, hW⟩ : ∃ W0, W0 = wr.alloc (.cells #[.string ke, .string na, .int .i64 va] 64) := ⟨_, rfl⟩
        have hW0 : Hid (W0 = wr.alloc (.cells #[.string ke, .string na, .int .i64 va] 64)) := hW
        have HBW : Hid (Below w.heap.size w W0) := by show Below _ _ _; rw [hW]; exact HB.out.alloc HB.out.size _
        have HBr : Hid (Below wr.heap.size wr W0) := by show Below _ _ _; rw [hW]; exact (Below.refl _ _).alloc (Nat.le_refl _) _
        have c0 : W0.cell? ⟨wr.heap.size, 0, none⟩ = some (.string ke) := by rw [hW]; simp
        have c1 : W0.cell? ⟨wr.heap.size, 1, none⟩ = some (.string na) := by rw [hW]; simp
        have c2 : W0.cell? ⟨wr.heap.size, 2, none⟩ = some (.int .i64 va) := by rw [hW]; simp
        have hbW : wr.heap.size < W0.heap.size := by rw [hW]; simp
        have hgW : g < W0.heap.size := Nat.lt_trans hgr hbW
        clear hW
        have d0 : W0.cell? ⟨g, m * 3, none⟩ = some (.string pk) := ((bcell HBr.out).1 _ _ hgr).trans d0'
        have d1 : W0.cell? ⟨g, m * 3 + 1, none⟩ = some (.string pn) := ((bcell HBr.out).1 _ _ hgr).trans d1'
        have d2 : W0.cell? ⟨g, m * 3 + 2, none⟩ = some (.int .i64 pv) := ((bcell HBr.out).1 _ _ hgr).trans d2'
        clear d0' d1' d2'
        cases ls with
        | false =>
          have HQ : Hid (R = false) := HNs.out rfl
          have qO : decide ((0 : Int) ≤ O) = true := HRi.out
          clear HRi HYs HNs
          go_wp2_with fail
          rw [← hW0.out]
          clear hW0
          generalize hbb : wr.heap.size = b at *
          clear hbb HBr HB e0 e1 e2 
          refine wp_region_held_drew (S := (fun w' => w'.cell? ⟨b, 0, none⟩ = some (.string ke) ∧ w'.cell? ⟨b, 1, none⟩ = some (.string na) ∧ w'.cell? ⟨b, 2, none⟩ = some (.int .i64 va) ∧ w'.cell? ⟨g, m * 3, none⟩ = some (.string pk) ∧ w'.cell? ⟨g, m * 3 + 1, none⟩ = some (.string pn) ∧ w'.cell? ⟨g, m * 3 + 2, none⟩ = some (.int .i64 pv))) (by kernel_rfl) ?_ (fun hH0 => ?_)
          · (try dsimp only)
            go_keep
          refine wpAnyH_take (i := 0) (oi := { dst := some 15, op := Op.load 64 (Operand.tmp 4), type := 64, pos := "l08_grant.go:48", after := #[], guard := none }) (v := ?vc0) rfl (by kernel_rfl) (by kernel_rfl) (by kernel_rfl) (fun _ _ _ h => h) (Or.inl ⟨by rfl, ?hyc0⟩) (by assumption) ?restc0
          case hyc0 =>
            intro w hSw
            (try dsimp only at hSw)
            go_simp
            try with_reducible rfl
          try simp only [Act.put, List.setIfInBounds_toArray, List.set_cons_zero, List.set_cons_succ]
          refine wpAnyH_ready (rs := [1]) (by kernel_rfl) (by simp) ?_
          refine AllReadyH.cons (o := { dst := some 16, op := Op.call { callee := Callee.value (Operand.func 67), args := #[Operand.tmp 15], argTypes := #[64] }, type := 4, pos := "l08_grant.go:48", after := #[{ on := 0, ground := Ground.data }], guard := none }) rfl (fun K hK => ?_) AllReadyH.nil
          go_simp
          (go_at_call 67; refine (KE.out _).mono ?_; rintro e w2 ⟨rfl, hb2⟩; have A2 : Below W0.heap.size W0 w2 := (Below.drew (Below.refl _ _)).trans hb2; have x0 : w2.cell? ⟨b, 0, none⟩ = some (.string ke) := ((bcell A2).1 _ _ hbW).trans c0; have x1 : w2.cell? ⟨b, 1, none⟩ = some (.string na) := ((bcell A2).1 _ _ hbW).trans c1; have x2 : w2.cell? ⟨b, 2, none⟩ = some (.int .i64 va) := ((bcell A2).1 _ _ hbW).trans c2; have xp0 : w2.cell? ⟨g, m * 3, none⟩ = some (.string pk) := ((bcell A2).1 _ _ hgW).trans d0; have xp1 : w2.cell? ⟨g, m * 3 + 1, none⟩ = some (.string pn) := ((bcell A2).1 _ _ hgW).trans d1; have xp2 : w2.cell? ⟨g, m * 3 + 2, none⟩ = some (.int .i64 pv) := ((bcell A2).1 _ _ hgW).trans d2)
          try (go_wp2_with fail)
          refine hK.out _ _ ?_ (fun hH1 => ?_)
          · (try dsimp only)
            go_keep
          clear hK K hH0
          try simp only [Act.put, List.setIfInBounds_toArray, List.set_cons_zero, List.set_cons_succ]
          refine wpAnyH_take (i := 2) (oi := { dst := some 17, op := Op.unOp UnOp.not 4 (Operand.tmp 16), type := 4, pos := "l08_grant.go:48", after := #[{ on := 1, ground := Ground.data }], guard := none }) (v := ?vc2) rfl (by kernel_rfl) (by kernel_rfl) (by kernel_rfl) (fun _ _ _ h => h) (Or.inl ⟨by rfl, ?hyc2⟩) (by assumption) ?restc2
          case hyc2 =>
            intro w hSw
            (try dsimp only at hSw)
            go_simp
            try with_reducible rfl
          try simp only [Act.put, List.setIfInBounds_toArray, List.set_cons_zero, List.set_cons_succ]
          refine wpAnyH_take (i := 3) (oi := { dst := some 18, op := Op.move (Operand.tmp 17), type := 4, pos := "l08_grant.go:48", after := #[{ on := 2, ground := Ground.data }, { on := 1, ground := Ground.chain }], guard := none }) (v := ?vc3) rfl (by kernel_rfl) (by kernel_rfl) (by kernel_rfl) (fun _ _ _ h => h) (Or.inl ⟨by rfl, ?hyc3⟩) (by assumption) ?restc3
          case hyc3 =>
            intro w hSw
            (try dsimp only at hSw)
            go_simp
            try with_reducible rfl
          try simp only [Act.put, List.setIfInBounds_toArray, List.set_cons_zero, List.set_cons_succ]
          refine wpAnyH_take (i := 4) (oi := { dst := some 19, op := Op.move (Operand.tmp 3), type := 3, pos := "l08_grant.go:48", after := #[{ on := 3, ground := Ground.guard }], guard := some (3, false) }) (v := ?vc4) rfl (by kernel_rfl) (by kernel_rfl) (by kernel_rfl) (fun _ _ _ h => h) (Or.inl ⟨by rfl, ?hyc4⟩) (by assumption) ?restc4
          case hyc4 =>
            intro w hSw
            (try dsimp only at hSw)
            go_simp
            try with_reducible rfl
          try simp only [Act.put, List.setIfInBounds_toArray, List.set_cons_zero, List.set_cons_succ]
          refine wpAnyH_take (i := 5) (oi := { dst := some 20, op := Op.binOp BinOp.gtr 3 (Operand.tmp 19) (Operand.const (Value.int IntKind.i64 0)) 3, type := 4, pos := "l08_grant.go:48", after := #[{ on := 4, ground := Ground.data }, { on := 3, ground := Ground.guard }], guard := some (3, false) }) (v := ?vc5) rfl (by kernel_rfl) (by kernel_rfl) (by kernel_rfl) (fun _ _ _ h => h) (Or.inl ⟨by rfl, ?hyc5⟩) (by assumption) ?restc5
          case hyc5 =>
            intro w hSw
            (try dsimp only at hSw)
            go_simp
            try with_reducible rfl
          try simp only [Act.put, List.setIfInBounds_toArray, List.set_cons_zero, List.set_cons_succ]
          refine wpAnyH_take (i := 6) (oi := { dst := some 21, op := Op.move (Operand.tmp 20), type := 4, pos := "l08_grant.go:48", after := #[{ on := 5, ground := Ground.data }, { on := 3, ground := Ground.chain }, { on := 3, ground := Ground.guard }], guard := some (3, false) }) (v := ?vc6) rfl (by kernel_rfl) (by kernel_rfl) (by kernel_rfl) (fun _ _ _ h => h) (Or.inl ⟨by rfl, ?hyc6⟩) (by assumption) ?restc6
          case hyc6 =>
            intro w hSw
            (try dsimp only at hSw)
            go_simp
            try with_reducible rfl
          try simp only [Act.put, List.setIfInBounds_toArray, List.set_cons_zero, List.set_cons_succ]
          refine wpAnyH_take (i := 7) (oi := { dst := some 22, op := Op.move (Operand.tmp 0), type := 23, pos := "l08_grant.go:48", after := #[{ on := 6, ground := Ground.guard }], guard := some (6, true) }) (v := ?vc7) rfl (by kernel_rfl) (by kernel_rfl) (by kernel_rfl) (fun _ _ _ h => h) (Or.inl ⟨by rfl, ?hyc7⟩) (by assumption) ?restc7
          case hyc7 =>
            intro w hSw
            (try dsimp only at hSw)
            go_simp
            try with_reducible rfl
          try simp only [Act.put, List.setIfInBounds_toArray, List.set_cons_zero, List.set_cons_succ]
          refine wpAnyH_take (i := 8) (oi := { dst := some 23, op := Op.move (Operand.tmp 3), type := 3, pos := "l08_grant.go:48", after := #[{ on := 6, ground := Ground.guard }], guard := some (6, true) }) (v := ?vc8) rfl (by kernel_rfl) (by kernel_rfl) (by kernel_rfl) (fun _ _ _ h => h) (Or.inl ⟨by rfl, ?hyc8⟩) (by assumption) ?restc8
          case hyc8 =>
            intro w hSw
            (try dsimp only at hSw)
            go_simp
            try with_reducible rfl
          try simp only [Act.put, List.setIfInBounds_toArray, List.set_cons_zero, List.set_cons_succ]
          refine wpAnyH_take (i := 9) (oi := { dst := some 24, op := Op.binOp BinOp.sub 3 (Operand.tmp 23) (Operand.const (Value.int IntKind.i64 1)) 3, type := 3, pos := "l08_grant.go:48", after := #[{ on := 8, ground := Ground.data }, { on := 6, ground := Ground.guard }], guard := some (6, true) }) (v := ?vc9) rfl (by kernel_rfl) (by kernel_rfl) (by kernel_rfl) (fun _ _ _ h => h) (Or.inl ⟨by rfl, ?hyc9⟩) (by assumption) ?restc9
          case hyc9 =>
            intro w hSw
            (try dsimp only at hSw)
            go_simp
            try with_reducible rfl
          try simp only [Act.put, List.setIfInBounds_toArray, List.set_cons_zero, List.set_cons_succ]
          refine wpAnyH_take (i := 10) (oi := { dst := some 25, op := Op.indexAddr 23 (Operand.tmp 22) (Operand.tmp 24), type := 0, pos := "l08_grant.go:48", after := #[{ on := 7, ground := Ground.data }, { on := 9, ground := Ground.data }, { on := 6, ground := Ground.guard }], guard := some (6, true) }) (v := ?vc10) rfl (by kernel_rfl) (by kernel_rfl) (by kernel_rfl) (fun _ _ _ h => h) (Or.inl ⟨by rfl, ?hyc10⟩) (by assumption) ?restc10
          case hyc10 =>
            intro w hSw
            (try dsimp only at hSw)
            go_simp
            try with_reducible rfl
          try simp only [Act.put, List.setIfInBounds_toArray, List.set_cons_zero, List.set_cons_succ]
          refine wpAnyH_take (i := 11) (oi := { dst := some 26, op := Op.load 64 (Operand.tmp 25), type := 64, pos := "l08_grant.go:48", after := #[{ on := 10, ground := Ground.data }, { on := 6, ground := Ground.guard }], guard := some (6, true) }) (v := ?vc11) rfl (by kernel_rfl) (by kernel_rfl) (by kernel_rfl) (fun _ _ _ h => h) (Or.inl ⟨by rfl, ?hyc11⟩) (by assumption) ?restc11
          case hyc11 =>
            intro w hSw
            (try dsimp only at hSw)
            go_simp
            try with_reducible rfl
          try simp only [Act.put, List.setIfInBounds_toArray, List.set_cons_zero, List.set_cons_succ]
          refine wpAnyH_take (i := 12) (oi := { dst := some 27, op := Op.load 64 (Operand.tmp 4), type := 64, pos := "l08_grant.go:48", after := #[{ on := 6, ground := Ground.guard }], guard := some (6, true) }) (v := ?vc12) rfl (by kernel_rfl) (by kernel_rfl) (by kernel_rfl) (fun _ _ _ h => h) (Or.inl ⟨by rfl, ?hyc12⟩) (by assumption) ?restc12
          case hyc12 =>
            intro w hSw
            (try dsimp only at hSw)
            go_simp
            try with_reducible rfl
          try simp only [Act.put, List.setIfInBounds_toArray, List.set_cons_zero, List.set_cons_succ]
          refine wpAnyH_ready (rs := [13]) (by kernel_rfl) (by simp) ?_
          refine AllReadyH.cons (o := { dst := some 28, op := Op.call { callee := Callee.value (Operand.func 48), args := #[Operand.tmp 26, Operand.tmp 27], argTypes := #[64, 64] }, type := 3, pos := "l08_grant.go:48", after := #[{ on := 11, ground := Ground.data }, { on := 12, ground := Ground.data }, { on := 6, ground := Ground.chain }, { on := 6, ground := Ground.guard }], guard := some (6, true) }) rfl (fun K hK => ?_) AllReadyH.nil
          go_simp
          (go_at_call 48; refine (KO.out _).mono ?_; rintro e w3 ⟨rfl, hb3⟩; have A3 : Below W0.heap.size W0 w3 := A2.trans (hb3.mono A2.size); have y0 : w3.cell? ⟨b, 0, none⟩ = some (.string ke) := ((bcell A3).1 _ _ hbW).trans c0; have y1 : w3.cell? ⟨b, 1, none⟩ = some (.string na) := ((bcell A3).1 _ _ hbW).trans c1; have y2 : w3.cell? ⟨b, 2, none⟩ = some (.int .i64 va) := ((bcell A3).1 _ _ hbW).trans c2; have yp0 : w3.cell? ⟨g, m * 3, none⟩ = some (.string pk) := ((bcell A3).1 _ _ hgW).trans d0; have yp1 : w3.cell? ⟨g, m * 3 + 1, none⟩ = some (.string pn) := ((bcell A3).1 _ _ hgW).trans d1; have yp2 : w3.cell? ⟨g, m * 3 + 2, none⟩ = some (.int .i64 pv) := ((bcell A3).1 _ _ hgW).trans d2)
          try (go_wp2_with fail)
          refine hK.out _ _ ?_ (fun hH2 => ?_)
          · (try dsimp only)
            go_keep
          clear hK K hH1
          try simp only [Act.put, List.setIfInBounds_toArray, List.set_cons_zero, List.set_cons_succ]
          refine wpAnyH_take (i := 14) (oi := { dst := some 29, op := Op.binOp BinOp.geq 3 (Operand.tmp 28) (Operand.const (Value.int IntKind.i64 0)) 3, type := 4, pos := "l08_grant.go:48", after := #[{ on := 13, ground := Ground.data }, { on := 6, ground := Ground.guard }], guard := some (6, true) }) (v := ?vc14) rfl (by kernel_rfl) (by kernel_rfl) (by kernel_rfl) (fun _ _ _ h => h) (Or.inl ⟨by rfl, ?hyc14⟩) (by assumption) ?restc14
          case hyc14 =>
            intro w hSw
            (try dsimp only at hSw)
            go_simp
            try with_reducible rfl
          try simp only [Act.put, List.setIfInBounds_toArray, List.set_cons_zero, List.set_cons_succ]
          refine wpAnyH_take (i := 15) (oi := { dst := some 30, op := Op.pick (Operand.tmp 21) (Operand.tmp 29) (Operand.const (Value.bool false)), type := 4, pos := "l08_grant.go:48", after := #[{ on := 6, ground := Ground.data }, { on := 14, ground := Ground.data }, { on := 3, ground := Ground.guard }], guard := some (3, false) }) (v := ?vc15) rfl (by kernel_rfl) (by kernel_rfl) (by kernel_rfl) (fun _ _ _ h => h) (Or.inl ⟨by rfl, ?hyc15⟩) (by assumption) ?restc15
          case hyc15 =>
            intro w hSw
            (try dsimp only at hSw)
            go_simp
            try with_reducible rfl
          try simp only [Act.put, List.setIfInBounds_toArray, List.set_cons_zero, List.set_cons_succ]
          refine wpAnyH_take (i := 16) (oi := { dst := some 31, op := Op.pick (Operand.tmp 18) (Operand.const (Value.bool true)) (Operand.tmp 30), type := 4, pos := "l08_grant.go:48", after := #[{ on := 3, ground := Ground.data }, { on := 15, ground := Ground.data }], guard := none }) (v := ?vc16) rfl (by kernel_rfl) (by kernel_rfl) (by kernel_rfl) (fun _ _ _ h => h) (Or.inl ⟨by rfl, ?hyc16⟩) (by assumption) ?restc16
          case hyc16 =>
            intro w hSw
            (try dsimp only at hSw)
            go_simp
            try with_reducible rfl
          try simp only [Act.put, List.setIfInBounds_toArray, List.set_cons_zero, List.set_cons_succ]
          refine wpAnyH_done (by kernel_rfl) ?_ _
          go_wp2
          go_ret
          exact ⟨ret_bool HQ.out.symm, HBW.out.trans (A3.mono HBW.out.size)⟩
        | true =>
          have qO : decide ((0 : Int) ≤ O) = false := HRi.out
          have HSt := HYs.out rfl
          have HSt2 : Hid (∀ j, j < m + 1 + 1 → okG L j = true) := HSt
          clear HRi HYs HNs HSt
          go_wp2_with fail
          rw [← hW0.out]
          clear hW0
          generalize hbb : wr.heap.size = b at *
          clear hbb HBr HB e0 e1 e2 
          refine wp_region_held_drew (S := (fun w' => w'.cell? ⟨b, 0, none⟩ = some (.string ke) ∧ w'.cell? ⟨b, 1, none⟩ = some (.string na) ∧ w'.cell? ⟨b, 2, none⟩ = some (.int .i64 va) ∧ w'.cell? ⟨g, m * 3, none⟩ = some (.string pk) ∧ w'.cell? ⟨g, m * 3 + 1, none⟩ = some (.string pn) ∧ w'.cell? ⟨g, m * 3 + 2, none⟩ = some (.int .i64 pv))) (by kernel_rfl) ?_ (fun hH0 => ?_)
          · (try dsimp only)
            go_keep
          refine wpAnyH_take (i := 0) (oi := { dst := some 15, op := Op.load 64 (Operand.tmp 4), type := 64, pos := "l08_grant.go:48", after := #[], guard := none }) (v := ?vd0) rfl (by kernel_rfl) (by kernel_rfl) (by kernel_rfl) (fun _ _ _ h => h) (Or.inl ⟨by rfl, ?hyd0⟩) (by assumption) ?restd0
          case hyd0 =>
            intro w hSw
            (try dsimp only at hSw)
            go_simp
            try with_reducible rfl
          try simp only [Act.put, List.setIfInBounds_toArray, List.set_cons_zero, List.set_cons_succ]
          refine wpAnyH_ready (rs := [1]) (by kernel_rfl) (by simp) ?_
          refine AllReadyH.cons (o := { dst := some 16, op := Op.call { callee := Callee.value (Operand.func 67), args := #[Operand.tmp 15], argTypes := #[64] }, type := 4, pos := "l08_grant.go:48", after := #[{ on := 0, ground := Ground.data }], guard := none }) rfl (fun K hK => ?_) AllReadyH.nil
          go_simp
          (go_at_call 67; refine (KE.out _).mono ?_; rintro e w2 ⟨rfl, hb2⟩; have A2 : Below W0.heap.size W0 w2 := (Below.drew (Below.refl _ _)).trans hb2; have x0 : w2.cell? ⟨b, 0, none⟩ = some (.string ke) := ((bcell A2).1 _ _ hbW).trans c0; have x1 : w2.cell? ⟨b, 1, none⟩ = some (.string na) := ((bcell A2).1 _ _ hbW).trans c1; have x2 : w2.cell? ⟨b, 2, none⟩ = some (.int .i64 va) := ((bcell A2).1 _ _ hbW).trans c2; have xp0 : w2.cell? ⟨g, m * 3, none⟩ = some (.string pk) := ((bcell A2).1 _ _ hgW).trans d0; have xp1 : w2.cell? ⟨g, m * 3 + 1, none⟩ = some (.string pn) := ((bcell A2).1 _ _ hgW).trans d1; have xp2 : w2.cell? ⟨g, m * 3 + 2, none⟩ = some (.int .i64 pv) := ((bcell A2).1 _ _ hgW).trans d2)
          try (go_wp2_with fail)
          refine hK.out _ _ ?_ (fun hH1 => ?_)
          · (try dsimp only)
            go_keep
          clear hK K hH0
          try simp only [Act.put, List.setIfInBounds_toArray, List.set_cons_zero, List.set_cons_succ]
          refine wpAnyH_take (i := 2) (oi := { dst := some 17, op := Op.unOp UnOp.not 4 (Operand.tmp 16), type := 4, pos := "l08_grant.go:48", after := #[{ on := 1, ground := Ground.data }], guard := none }) (v := ?vd2) rfl (by kernel_rfl) (by kernel_rfl) (by kernel_rfl) (fun _ _ _ h => h) (Or.inl ⟨by rfl, ?hyd2⟩) (by assumption) ?restd2
          case hyd2 =>
            intro w hSw
            (try dsimp only at hSw)
            go_simp
            try with_reducible rfl
          try simp only [Act.put, List.setIfInBounds_toArray, List.set_cons_zero, List.set_cons_succ]
          refine wpAnyH_take (i := 3) (oi := { dst := some 18, op := Op.move (Operand.tmp 17), type := 4, pos := "l08_grant.go:48", after := #[{ on := 2, ground := Ground.data }, { on := 1, ground := Ground.chain }], guard := none }) (v := ?vd3) rfl (by kernel_rfl) (by kernel_rfl) (by kernel_rfl) (fun _ _ _ h => h) (Or.inl ⟨by rfl, ?hyd3⟩) (by assumption) ?restd3
          case hyd3 =>
            intro w hSw
            (try dsimp only at hSw)
            go_simp
            try with_reducible rfl
          try simp only [Act.put, List.setIfInBounds_toArray, List.set_cons_zero, List.set_cons_succ]
          refine wpAnyH_take (i := 4) (oi := { dst := some 19, op := Op.move (Operand.tmp 3), type := 3, pos := "l08_grant.go:48", after := #[{ on := 3, ground := Ground.guard }], guard := some (3, false) }) (v := ?vd4) rfl (by kernel_rfl) (by kernel_rfl) (by kernel_rfl) (fun _ _ _ h => h) (Or.inl ⟨by rfl, ?hyd4⟩) (by assumption) ?restd4
          case hyd4 =>
            intro w hSw
            (try dsimp only at hSw)
            go_simp
            try with_reducible rfl
          try simp only [Act.put, List.setIfInBounds_toArray, List.set_cons_zero, List.set_cons_succ]
          refine wpAnyH_take (i := 5) (oi := { dst := some 20, op := Op.binOp BinOp.gtr 3 (Operand.tmp 19) (Operand.const (Value.int IntKind.i64 0)) 3, type := 4, pos := "l08_grant.go:48", after := #[{ on := 4, ground := Ground.data }, { on := 3, ground := Ground.guard }], guard := some (3, false) }) (v := ?vd5) rfl (by kernel_rfl) (by kernel_rfl) (by kernel_rfl) (fun _ _ _ h => h) (Or.inl ⟨by rfl, ?hyd5⟩) (by assumption) ?restd5
          case hyd5 =>
            intro w hSw
            (try dsimp only at hSw)
            go_simp
            try with_reducible rfl
          try simp only [Act.put, List.setIfInBounds_toArray, List.set_cons_zero, List.set_cons_succ]
          refine wpAnyH_take (i := 6) (oi := { dst := some 21, op := Op.move (Operand.tmp 20), type := 4, pos := "l08_grant.go:48", after := #[{ on := 5, ground := Ground.data }, { on := 3, ground := Ground.chain }, { on := 3, ground := Ground.guard }], guard := some (3, false) }) (v := ?vd6) rfl (by kernel_rfl) (by kernel_rfl) (by kernel_rfl) (fun _ _ _ h => h) (Or.inl ⟨by rfl, ?hyd6⟩) (by assumption) ?restd6
          case hyd6 =>
            intro w hSw
            (try dsimp only at hSw)
            go_simp
            try with_reducible rfl
          try simp only [Act.put, List.setIfInBounds_toArray, List.set_cons_zero, List.set_cons_succ]
          refine wpAnyH_take (i := 7) (oi := { dst := some 22, op := Op.move (Operand.tmp 0), type := 23, pos := "l08_grant.go:48", after := #[{ on := 6, ground := Ground.guard }], guard := some (6, true) }) (v := ?vd7) rfl (by kernel_rfl) (by kernel_rfl) (by kernel_rfl) (fun _ _ _ h => h) (Or.inl ⟨by rfl, ?hyd7⟩) (by assumption) ?restd7
          case hyd7 =>
            intro w hSw
            (try dsimp only at hSw)
            go_simp
            try with_reducible rfl
          try simp only [Act.put, List.setIfInBounds_toArray, List.set_cons_zero, List.set_cons_succ]
          refine wpAnyH_take (i := 8) (oi := { dst := some 23, op := Op.move (Operand.tmp 3), type := 3, pos := "l08_grant.go:48", after := #[{ on := 6, ground := Ground.guard }], guard := some (6, true) }) (v := ?vd8) rfl (by kernel_rfl) (by kernel_rfl) (by kernel_rfl) (fun _ _ _ h => h) (Or.inl ⟨by rfl, ?hyd8⟩) (by assumption) ?restd8
          case hyd8 =>
            intro w hSw
            (try dsimp only at hSw)
            go_simp
            try with_reducible rfl
          try simp only [Act.put, List.setIfInBounds_toArray, List.set_cons_zero, List.set_cons_succ]
          refine wpAnyH_take (i := 9) (oi := { dst := some 24, op := Op.binOp BinOp.sub 3 (Operand.tmp 23) (Operand.const (Value.int IntKind.i64 1)) 3, type := 3, pos := "l08_grant.go:48", after := #[{ on := 8, ground := Ground.data }, { on := 6, ground := Ground.guard }], guard := some (6, true) }) (v := ?vd9) rfl (by kernel_rfl) (by kernel_rfl) (by kernel_rfl) (fun _ _ _ h => h) (Or.inl ⟨by rfl, ?hyd9⟩) (by assumption) ?restd9
          case hyd9 =>
            intro w hSw
            (try dsimp only at hSw)
            go_simp
            try with_reducible rfl
          try simp only [Act.put, List.setIfInBounds_toArray, List.set_cons_zero, List.set_cons_succ]
          refine wpAnyH_take (i := 10) (oi := { dst := some 25, op := Op.indexAddr 23 (Operand.tmp 22) (Operand.tmp 24), type := 0, pos := "l08_grant.go:48", after := #[{ on := 7, ground := Ground.data }, { on := 9, ground := Ground.data }, { on := 6, ground := Ground.guard }], guard := some (6, true) }) (v := ?vd10) rfl (by kernel_rfl) (by kernel_rfl) (by kernel_rfl) (fun _ _ _ h => h) (Or.inl ⟨by rfl, ?hyd10⟩) (by assumption) ?restd10
          case hyd10 =>
            intro w hSw
            (try dsimp only at hSw)
            go_simp
            try with_reducible rfl
          try simp only [Act.put, List.setIfInBounds_toArray, List.set_cons_zero, List.set_cons_succ]
          refine wpAnyH_take (i := 11) (oi := { dst := some 26, op := Op.load 64 (Operand.tmp 25), type := 64, pos := "l08_grant.go:48", after := #[{ on := 10, ground := Ground.data }, { on := 6, ground := Ground.guard }], guard := some (6, true) }) (v := ?vd11) rfl (by kernel_rfl) (by kernel_rfl) (by kernel_rfl) (fun _ _ _ h => h) (Or.inl ⟨by rfl, ?hyd11⟩) (by assumption) ?restd11
          case hyd11 =>
            intro w hSw
            (try dsimp only at hSw)
            go_simp
            try with_reducible rfl
          try simp only [Act.put, List.setIfInBounds_toArray, List.set_cons_zero, List.set_cons_succ]
          refine wpAnyH_take (i := 12) (oi := { dst := some 27, op := Op.load 64 (Operand.tmp 4), type := 64, pos := "l08_grant.go:48", after := #[{ on := 6, ground := Ground.guard }], guard := some (6, true) }) (v := ?vd12) rfl (by kernel_rfl) (by kernel_rfl) (by kernel_rfl) (fun _ _ _ h => h) (Or.inl ⟨by rfl, ?hyd12⟩) (by assumption) ?restd12
          case hyd12 =>
            intro w hSw
            (try dsimp only at hSw)
            go_simp
            try with_reducible rfl
          try simp only [Act.put, List.setIfInBounds_toArray, List.set_cons_zero, List.set_cons_succ]
          refine wpAnyH_ready (rs := [13]) (by kernel_rfl) (by simp) ?_
          refine AllReadyH.cons (o := { dst := some 28, op := Op.call { callee := Callee.value (Operand.func 48), args := #[Operand.tmp 26, Operand.tmp 27], argTypes := #[64, 64] }, type := 3, pos := "l08_grant.go:48", after := #[{ on := 11, ground := Ground.data }, { on := 12, ground := Ground.data }, { on := 6, ground := Ground.chain }, { on := 6, ground := Ground.guard }], guard := some (6, true) }) rfl (fun K hK => ?_) AllReadyH.nil
          go_simp
          (go_at_call 48; refine (KO.out _).mono ?_; rintro e w3 ⟨rfl, hb3⟩; have A3 : Below W0.heap.size W0 w3 := A2.trans (hb3.mono A2.size); have y0 : w3.cell? ⟨b, 0, none⟩ = some (.string ke) := ((bcell A3).1 _ _ hbW).trans c0; have y1 : w3.cell? ⟨b, 1, none⟩ = some (.string na) := ((bcell A3).1 _ _ hbW).trans c1; have y2 : w3.cell? ⟨b, 2, none⟩ = some (.int .i64 va) := ((bcell A3).1 _ _ hbW).trans c2; have yp0 : w3.cell? ⟨g, m * 3, none⟩ = some (.string pk) := ((bcell A3).1 _ _ hgW).trans d0; have yp1 : w3.cell? ⟨g, m * 3 + 1, none⟩ = some (.string pn) := ((bcell A3).1 _ _ hgW).trans d1; have yp2 : w3.cell? ⟨g, m * 3 + 2, none⟩ = some (.int .i64 pv) := ((bcell A3).1 _ _ hgW).trans d2)
          try (go_wp2_with fail)
          refine hK.out _ _ ?_ (fun hH2 => ?_)
          · (try dsimp only)
            go_keep
          clear hK K hH1
          try simp only [Act.put, List.setIfInBounds_toArray, List.set_cons_zero, List.set_cons_succ]
          refine wpAnyH_take (i := 14) (oi := { dst := some 29, op := Op.binOp BinOp.geq 3 (Operand.tmp 28) (Operand.const (Value.int IntKind.i64 0)) 3, type := 4, pos := "l08_grant.go:48", after := #[{ on := 13, ground := Ground.data }, { on := 6, ground := Ground.guard }], guard := some (6, true) }) (v := ?vd14) rfl (by kernel_rfl) (by kernel_rfl) (by kernel_rfl) (fun _ _ _ h => h) (Or.inl ⟨by rfl, ?hyd14⟩) (by assumption) ?restd14
          case hyd14 =>
            intro w hSw
            (try dsimp only at hSw)
            go_simp
            try with_reducible rfl
          try simp only [Act.put, List.setIfInBounds_toArray, List.set_cons_zero, List.set_cons_succ]
          refine wpAnyH_take (i := 15) (oi := { dst := some 30, op := Op.pick (Operand.tmp 21) (Operand.tmp 29) (Operand.const (Value.bool false)), type := 4, pos := "l08_grant.go:48", after := #[{ on := 6, ground := Ground.data }, { on := 14, ground := Ground.data }, { on := 3, ground := Ground.guard }], guard := some (3, false) }) (v := ?vd15) rfl (by kernel_rfl) (by kernel_rfl) (by kernel_rfl) (fun _ _ _ h => h) (Or.inl ⟨by rfl, ?hyd15⟩) (by assumption) ?restd15
          case hyd15 =>
            intro w hSw
            (try dsimp only at hSw)
            go_simp
            try with_reducible rfl
          try simp only [Act.put, List.setIfInBounds_toArray, List.set_cons_zero, List.set_cons_succ]
          refine wpAnyH_take (i := 16) (oi := { dst := some 31, op := Op.pick (Operand.tmp 18) (Operand.const (Value.bool true)) (Operand.tmp 30), type := 4, pos := "l08_grant.go:48", after := #[{ on := 3, ground := Ground.data }, { on := 15, ground := Ground.data }], guard := none }) (v := ?vd16) rfl (by kernel_rfl) (by kernel_rfl) (by kernel_rfl) (fun _ _ _ h => h) (Or.inl ⟨by rfl, ?hyd16⟩) (by assumption) ?restd16
          case hyd16 =>
            intro w hSw
            (try dsimp only at hSw)
            go_simp
            try with_reducible rfl
          try simp only [Act.put, List.setIfInBounds_toArray, List.set_cons_zero, List.set_cons_succ]
          refine wpAnyH_done (by kernel_rfl) ?_ _
          have BN : Hid (Below w.heap.size w w3) := HBW.out.trans (A3.mono HBW.out.size)
          go_wp2
          go_roundw
          case rel => exact ⟨m + 2, by omega, by go_num, HSt2, BN⟩
          case measure => simp [intOf]; omega
    · obtain rfl : k = L.length := by omega
      have HQ : Hid (R = true) := HAll2.out HR.out
      go_wp2
      go_ret
      exact ⟨ret_bool HQ.out.symm, HB.out⟩
end Go.Proofs.Ytecaeolgheefmaa

/- The walk of the program's leave.has. Written by implleave2.py. -/
namespace Go.Proofs.Ytecaeolgheefmaa
open Go.RowKit

set_option maxRecDepth 10000 in
set_option maxHeartbeats 4000000 in
theorem hasG_any (tp si : ByteArray) (c : Gr) (w : World) :
    Calls Try.prog 44 #[leaveV tp si, grV c] w fun e w' => e = .returned (.bool (isG tp si c)) ∧ Below w.heap.size w w' := by
  have KP0 : ∀ W, Calls Try.prog 74 #[grV c] W fun e w' => e = .returned (leaveV c.tp c.si) ∧ Below W.heap.size W w' := fun W => leaveOf_any c W
  have HE : Hid (isG tp si c = ((c.tp.toList == tp.toList) && (c.si.toList == si.toList))) := rfl
  generalize isG tp si c = R at *
  obtain ⟨tp2, si2, un⟩ := c
  unfold grV leaveV at *
  dsimp only at *
  have KP : Hid (∀ W, Calls Try.prog 74 #[.agg #[.string tp2, .string si2, .int .i64 un]] W fun e w' => e = .returned (.agg #[.string tp2, .string si2]) ∧ Below W.heap.size W w') := KP0
  clear KP0
  obtain ⟨W0, hW⟩ : ∃ W0, W0 = (w.alloc (.cells #[.string tp, .string si] 60)).alloc (.cells #[.string tp2, .string si2, .int .i64 un] 64) := ⟨_, rfl⟩
  have hW0 : Hid (W0 = (w.alloc (.cells #[.string tp, .string si] 60)).alloc (.cells #[.string tp2, .string si2, .int .i64 un] 64)) := hW
  have HB : Hid (Below w.heap.size w W0) := by show Below _ _ _; rw [hW]; exact ((Below.refl _ _).alloc (Nat.le_refl _) _).alloc (by simp) _
  have z0 : w.heap.size < W0.heap.size := by rw [hW]; simp; omega
  have z1 : w.heap.size + 1 < W0.heap.size := by rw [hW]; simp
  have p0 : W0.cell? ⟨w.heap.size, 0, none⟩ = some (.string tp) := by rw [hW]; simp
  have p1 : W0.cell? ⟨w.heap.size, 1, none⟩ = some (.string si) := by rw [hW]; simp
  have q0 : W0.cell? ⟨w.heap.size + 1, 0, none⟩ = some (.string tp2) := by rw [hW]; exact (World.cell?_alloc_at _ _ _ _ (by simp)).trans rfl
  have q1 : W0.cell? ⟨w.heap.size + 1, 1, none⟩ = some (.string si2) := by rw [hW]; exact (World.cell?_alloc_at _ _ _ _ (by simp)).trans rfl
  have q2 : W0.cell? ⟨w.heap.size + 1, 2, none⟩ = some (.int .i64 un) := by rw [hW]; exact (World.cell?_alloc_at _ _ _ _ (by simp)).trans rfl
  clear hW
  cases h0 : (tp2.toList == tp.toList) with
  | false =>
    have HQ : Hid (R = false) := by show _ = _; rw [HE.out]; simp only [*]; try rfl
    go_enter Try.func44, Try.ntmps44
    go_wp2_with fail
    rw [← hW0.out]
    go_region_held3 (fun w' => w'.cell? ⟨w.heap.size, 0, none⟩ = some (.string tp) ∧ w'.cell? ⟨w.heap.size, 1, none⟩ = some (.string si) ∧ w'.cell? ⟨w.heap.size + 1, 0, none⟩ = some (.string tp2) ∧ w'.cell? ⟨w.heap.size + 1, 1, none⟩ = some (.string si2) ∧ w'.cell? ⟨w.heap.size + 1, 2, none⟩ = some (.int .i64 un)) (go_keep)
      (first | (go_at_call 74; refine (KP.out _).mono ?_; rintro e w2 ⟨rfl, hb2⟩; have A2 : Below W0.heap.size W0 w2 := (Below.drew (Below.refl _ _)).trans hb2; have l0 : w2.cell? ⟨w.heap.size, 0, none⟩ = some (.string tp) := ((bcell A2).1 _ _ z0).trans p0; have l1 : w2.cell? ⟨w.heap.size, 1, none⟩ = some (.string si) := ((bcell A2).1 _ _ z0).trans p1; have l2 : w2.cell? ⟨w.heap.size + 1, 0, none⟩ = some (.string tp2) := ((bcell A2).1 _ _ z1).trans q0; have l3 : w2.cell? ⟨w.heap.size + 1, 1, none⟩ = some (.string si2) := ((bcell A2).1 _ _ z1).trans q1; have l4 : w2.cell? ⟨w.heap.size + 1, 2, none⟩ = some (.int .i64 un) := ((bcell A2).1 _ _ z1).trans q2))
    have B2 : Hid (Below w.heap.size w w2) := HB.out.trans (A2.mono HB.out.size)
    all_goals go_wp2
    all_goals go_ret
    all_goals exact ⟨ret_bool HQ.out.symm, B2.out⟩
  | true =>
    cases h1 : (si2.toList == si.toList) with
    | false =>
      have HQ : Hid (R = false) := by show _ = _; rw [HE.out]; simp only [*]; try rfl
      go_enter Try.func44, Try.ntmps44
      go_wp2_with fail
      rw [← hW0.out]
      go_region_held3 (fun w' => w'.cell? ⟨w.heap.size, 0, none⟩ = some (.string tp) ∧ w'.cell? ⟨w.heap.size, 1, none⟩ = some (.string si) ∧ w'.cell? ⟨w.heap.size + 1, 0, none⟩ = some (.string tp2) ∧ w'.cell? ⟨w.heap.size + 1, 1, none⟩ = some (.string si2) ∧ w'.cell? ⟨w.heap.size + 1, 2, none⟩ = some (.int .i64 un)) (go_keep)
        (first | (go_at_call 74; refine (KP.out _).mono ?_; rintro e w2 ⟨rfl, hb2⟩; have A2 : Below W0.heap.size W0 w2 := (Below.drew (Below.refl _ _)).trans hb2; have l0 : w2.cell? ⟨w.heap.size, 0, none⟩ = some (.string tp) := ((bcell A2).1 _ _ z0).trans p0; have l1 : w2.cell? ⟨w.heap.size, 1, none⟩ = some (.string si) := ((bcell A2).1 _ _ z0).trans p1; have l2 : w2.cell? ⟨w.heap.size + 1, 0, none⟩ = some (.string tp2) := ((bcell A2).1 _ _ z1).trans q0; have l3 : w2.cell? ⟨w.heap.size + 1, 1, none⟩ = some (.string si2) := ((bcell A2).1 _ _ z1).trans q1; have l4 : w2.cell? ⟨w.heap.size + 1, 2, none⟩ = some (.int .i64 un) := ((bcell A2).1 _ _ z1).trans q2))
      have B2 : Hid (Below w.heap.size w w2) := HB.out.trans (A2.mono HB.out.size)
      all_goals go_wp2
      all_goals go_ret
      all_goals exact ⟨ret_bool HQ.out.symm, B2.out⟩
    | true =>
      have HQ : Hid (R = true) := by show _ = _; rw [HE.out]; simp only [*]; try rfl
      go_enter Try.func44, Try.ntmps44
      go_wp2_with fail
      rw [← hW0.out]
      go_region_held3 (fun w' => w'.cell? ⟨w.heap.size, 0, none⟩ = some (.string tp) ∧ w'.cell? ⟨w.heap.size, 1, none⟩ = some (.string si) ∧ w'.cell? ⟨w.heap.size + 1, 0, none⟩ = some (.string tp2) ∧ w'.cell? ⟨w.heap.size + 1, 1, none⟩ = some (.string si2) ∧ w'.cell? ⟨w.heap.size + 1, 2, none⟩ = some (.int .i64 un)) (go_keep)
        (first | (go_at_call 74; refine (KP.out _).mono ?_; rintro e w2 ⟨rfl, hb2⟩; have A2 : Below W0.heap.size W0 w2 := (Below.drew (Below.refl _ _)).trans hb2; have l0 : w2.cell? ⟨w.heap.size, 0, none⟩ = some (.string tp) := ((bcell A2).1 _ _ z0).trans p0; have l1 : w2.cell? ⟨w.heap.size, 1, none⟩ = some (.string si) := ((bcell A2).1 _ _ z0).trans p1; have l2 : w2.cell? ⟨w.heap.size + 1, 0, none⟩ = some (.string tp2) := ((bcell A2).1 _ _ z1).trans q0; have l3 : w2.cell? ⟨w.heap.size + 1, 1, none⟩ = some (.string si2) := ((bcell A2).1 _ _ z1).trans q1; have l4 : w2.cell? ⟨w.heap.size + 1, 2, none⟩ = some (.int .i64 un) := ((bcell A2).1 _ _ z1).trans q2))
      have B2 : Hid (Below w.heap.size w w2) := HB.out.trans (A2.mono HB.out.size)
      all_goals go_wp2
      all_goals go_ret
      all_goals exact ⟨ret_bool HQ.out.symm, B2.out⟩
end Go.Proofs.Ytecaeolgheefmaa

/- 'clear' of a slice whose elements have several cells. -/
namespace Go.Proofs.Ytecaeolgheefmaa
open Go.RowKit

theorem run_clear_cells {P : Program} (w : World) (t e ty : TypeId) (z : Value) (ht : P.underlying t = some (.slice e)) (hv : ∀ w, (zeroValue e).run P w = .ok z w) (b o n c : Nat) (hn : 0 < n) (h1 : ∀ v ∈ (Builtin.zeroCells z.cells n).toList, v.oneCell' = true)
    (hc : ∀ j, j < (Builtin.zeroCells z.cells n).toList.length → (w.cell? ⟨b, o + j, none⟩).isSome = true) (hf : ∀ j, j < (Builtin.zeroCells z.cells n).toList.length → w.frozen? ⟨b, o + j, none⟩ = false) :
    (Builtin.clear_ #[t] ty #[.slice (some ⟨b, o, none⟩) n c]).run P w = .ok (.tuple #[]) (w.setCells b o (Builtin.zeroCells z.cells n).toList) := by
  have hst := run_storeCells_cells (P := P) b o (Builtin.zeroCells z.cells n).toList 0 w (by simpa using hc) (by simpa using hf) h1
  simp only [Nat.add_zero] at hst
  obtain ⟨m, rfl⟩ : ∃ m, n = m + 1 := ⟨n - 1, by omega⟩
  simp [Builtin.clear_, run_underlying ht, hv, hst]
theorem zeroCells_len (z : Array Value) (n : Nat) : (Builtin.zeroCells z n).toList.length = n * z.size := by simp [Builtin.zeroCells]
theorem below_setCellsK {B g : Nat} (hg : B ≤ g) : ∀ (vs : List Value) (o : Nat) (w : World), Below B w (w.setCells g o vs)
  | [], _, _ => Below.refl _ _
  | v :: r, o, w => Below.trans ((Below.refl B w).setCell (p := ⟨g, o, none⟩) hg v) (below_setCellsK hg r (o + 1) _)
end Go.Proofs.Ytecaeolgheefmaa
