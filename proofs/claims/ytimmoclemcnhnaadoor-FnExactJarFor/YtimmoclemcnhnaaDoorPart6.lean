/- 12 of this claim's texts, one behind the other. -/
import Derived.Test.YtimmoclemcnhnaaDoorPart1
import Derived.Deep.RegionHeld3
import Derived.Test.YtimmoclemcnhnaaDoorPart5
import Derived.Test.YtimmoclemcnhnaaDoorPart2
import Derived.Test.YtimmoclemcnhnaaDoorPart3
import Derived.Test.YtimmoclemcnhnaaDoorPart4
import Derived.Deep.DeepCutAuto
import Derived.Deep.AppendLies
import Derived.Laws.ResultCell
import Derived.Handed
import Derived.Lay
import Derived.MakeChecks
import Derived.Lib.LaidTab
import Derived.Stop.LaidErr
/- The walk of the specification's UrlText. -/
namespace Go.Proofs.YtimmoclemcnhnaaDoor
open Go.RowKit

/-- the text of a right url, else the empty one -/
def urlT (sc ho pa : ByteArray) (po : Int) : ByteArray := if urlB sc ho pa po = true then placeT sc ho po ++ pa else ⟨#[]⟩
theorem schemeB_size {t : ByteArray} (h : schemeB t = true) : t.size ≤ 5 := by
  have hl : t.size = t.toList.length := by rw [ByteArray.toList_eq]; rfl
  unfold schemeB at h
  rw [Bool.or_eq_true, beq_iff_eq, beq_iff_eq] at h
  rcases h with h | h <;> rw [hl, h] <;> decide
theorem urlB_parts {sc ho pa : ByteArray} {po : Int} (h : urlB sc ho pa po = true) : sc.size ≤ 5 ∧ ho.size ≤ 100 ∧ 1 ≤ po ∧ po ≤ 65535 ∧ pa.size ≤ 40 := by
  unfold urlB placeB at h
  simp only [Bool.and_eq_true, decide_eq_true_eq] at h
  obtain ⟨⟨⟨h1, h2⟩, h3, h4⟩, h5⟩ := h
  refine ⟨schemeB_size h1, ?_, h3, h4, ?_⟩
  · by_cases hz : 100 < ho.size
    · rw [hostB_size hz] at h2; cases h2
    · omega
  · by_cases hz : 40 < pa.size
    · rw [pathB_size (.inr hz)] at h5; cases h5
    · omega
theorem placeT_size {sc ho : ByteArray} {po : Int} (h1 : sc.size ≤ 5) (h2 : ho.size ≤ 100) (h3 : 1 ≤ po) (h4 : po ≤ 65535) : (placeT sc ho po).size ≤ 200 := by
  have hd := decB_size (n := po) (by omega) (by omega)
  have e1 : (⟨#[58, 47, 47]⟩ : ByteArray).size = 3 := rfl
  have e2 : (⟨#[58]⟩ : ByteArray).size = 1 := rfl
  unfold placeT
  split
  · rw [ByteArray.size_append, ByteArray.size_append]; omega
  · rw [ByteArray.size_append, ByteArray.size_append, ByteArray.size_append, ByteArray.size_append]; omega

end Go.Proofs.YtimmoclemcnhnaaDoor

/- The walk of the specification's JarFor. -/
namespace Go.Proofs.YtimmoclemcnhnaaDoor
open Go.RowKit

/-- what goes along, as pairs in their order -/
def forZ (L : List Ck) (sc uh : ByteArray) (po : Int) (up part : ByteArray) (wide near : Bool) (now : Int) : List (ByteArray × ByteArray) :=
  if (jarB L && urlB sc uh up po && partB part && timeB now) = true then (byLen (L.filter (fun c => goB c sc uh up part wide near now)) 40).map pairOf else []
theorem pathB_some {t : ByteArray} (h : pathB t = true) : 0 < t.size := by
  unfold pathB at h; rw [decide_eq_true_eq] at h; omega
theorem urlB_host {sc ho pa : ByteArray} {po : Int} (h : urlB sc ho pa po = true) : hostB ho = true ∧ pathB pa = true := by
  unfold urlB placeB at h
  simp only [Bool.and_eq_true] at h
  exact ⟨by have := h.1; simp_all, h.2⟩
theorem atC_mem {L : List Ck} {c : Ck} (h : c ∈ L) : ∃ i, i < L.length ∧ atC L i = c := by
  obtain ⟨i, hi, rfl⟩ := List.mem_iff_getElem.1 h
  exact ⟨i, hi, by simp [atC, hi]⟩
theorem filter_go {L : List Ck} {sc uh : ByteArray} {po : Int} {up part : ByteArray} {wide near : Bool} {now : Int} (h1 : jarB L = true) (h2 : urlB sc uh up po = true) : L.filter (fun c => goS c sc uh up part wide near now) = L.filter (fun c => goB c sc uh up part wide near now) := by
  refine List.filter_congr fun c hc => ?_
  obtain ⟨i, hi, rfl⟩ := atC_mem hc
  obtain ⟨-, -, h3, h4, -⟩ := ckB_parts (okJ_right ((jarB_parts h1).2 i hi))
  obtain ⟨h5, h6⟩ := urlB_host h2
  exact goS_go h5 h3 h6 h4
theorem forZ_len (L : List Ck) (sc uh : ByteArray) (po : Int) (up part : ByteArray) (wide near : Bool) (now : Int) : (forZ L sc uh po up part wide near now).length ≤ 1000 := by
  unfold forZ
  split
  · rename_i h
    simp only [Bool.and_eq_true] at h
    rw [List.length_map]
    have h1 := byLen_len (L.filter (fun c => goB c sc uh up part wide near now)) 40
    have h2 := List.length_filter_le (fun c => goB c sc uh up part wide near now) L
    have h3 := (jarB_parts h.1.1.1).1
    omega
  · exact Nat.zero_le _
set_option maxRecDepth 10000 in
set_option maxHeartbeats 8000000 in
theorem specJarFor_any (v : Value) (L : List Ck) (sc uh : ByteArray) (po : Int) (up part : ByteArray) (wide near : Bool) (now : Int) (B : Nat) (w : World) (hs : SliceC w B v L) (hn : L.length ≤ 1048576) (hz : ∀ i, i < L.length → (atC L i).na.size ≤ 1048576 ∧ (atC L i).va.size ≤ 1048576) :
    Calls Tryd.prog 25 #[v, .agg #[.string sc, .string uh, .int .i64 po, .string up], .string part, .bool wide, .bool near, .int .i64 now] w fun e w' => ∃ v', e = .returned v' ∧ SliceP w' w.heap.size v' (forZ L sc uh po up part wide near now) ∧ Below w.heap.size w w' := by
  have KJ : Hid (∀ W, Below w.heap.size w W → Calls Tryd.prog 71 #[v] W fun e w' => e = .returned (.bool (jarB L)) ∧ Below W.heap.size W w') := fun W hb => specJar_any v L B W (hs.below hb) hn hz
  have KU : Hid (∀ W, Calls Tryd.prog 72 #[.agg #[.string sc, .string uh, .int .i64 po, .string up]] W fun e w' => e = .returned (.bool (urlB sc uh up po)) ∧ Below W.heap.size W w') := fun W => specUrlRight_any sc uh up po W
  have KP : Hid (∀ W, Calls Tryd.prog 73 #[.string part] W fun e w' => e = .returned (.bool (partB part)) ∧ w' = W) := fun W => specPart_any part W
  have KT : Hid (∀ W, Calls Tryd.prog 74 #[.int .i64 now] W fun e w' => e = .returned (.bool (timeB now)) ∧ w' = W) := fun W => specTime_any now W
  have KF : Hid (jarB L = true → urlB sc uh up po = true → ∀ W, Below w.heap.size w W → Calls Tryd.prog 75 #[v, .agg #[.string sc, .string uh, .int .i64 po, .string up], .string part, .bool wide, .bool near, .int .i64 now] W fun e w' => ∃ v', e = .returned v' ∧ SliceP w' W.heap.size v' ((byLen (L.filter (fun c => goB c sc uh up part wide near now)) 40).map pairOf) ∧ Below W.heap.size W w') := fun h1 h2 W hb => by
    rw [← filter_go h1 h2]
    refine specFor_any v L sc uh po up part wide near now B W (hs.below hb) (jarB_parts h1).1 (by have := (urlB_parts h2).2.1; omega) (fun i hi => ?_)
    obtain ⟨-, -, h3, h4, -⟩ := ckB_parts (okJ_right ((jarB_parts h1).2 i hi))
    have h5 := pathB_some h4
    have h6 : (atC L i).pa.size ≤ 40 := by unfold pathB at h4; rw [decide_eq_true_eq] at h4; omega
    have h7 : (atC L i).ho.size ≤ 100 := by
      by_cases hz : 100 < (atC L i).ho.size
      · rw [hostB_size hz] at h3; cases h3
      · omega
    exact ⟨by omega, h5, by omega⟩
  have HNo : Hid ((jarB L && urlB sc uh up po && partB part && timeB now) = false → forZ L sc uh po up part wide near now = []) := fun h => by unfold forZ; rw [if_neg (by rw [h]; decide)]
  have HY : Hid ((jarB L && urlB sc uh up po && partB part && timeB now) = true → forZ L sc uh po up part wide near now = (byLen (L.filter (fun c => goB c sc uh up part wide near now)) 40).map pairOf) := fun h => by unfold forZ; rw [if_pos h]
  have HJ : Hid (400 < L.length → jarB L = false) := fun h => by
    cases hj : jarB L with
    | false => rfl
    | true => have := (jarB_parts hj).1; omega
  have HPt : Hid (8000 < part.size → partB part = false) := fun h => by unfold partB; rw [decide_eq_false (by omega)]
  obtain ⟨⟨q, cap, rfl, -⟩, -⟩ := hs
  clear hz
  generalize forZ L sc uh po up part wide near now = Z at *
  generalize (byLen (L.filter (fun c => goB c sc uh up part wide near now)) 40).map pairOf = Y at *
  generalize jarB L = bj at *
  generalize urlB sc uh up po = bu at *
  generalize partB part = bp at *
  generalize timeB now = bt at *
  obtain ⟨W0, hW⟩ : ∃ W0, W0 = w.alloc (.cells #[.string sc, .string uh, .int .i64 po, .string up] 45) := ⟨_, rfl⟩
  have hW0 : Hid (W0 = w.alloc (.cells #[.string sc, .string uh, .int .i64 po, .string up] 45)) := hW
  have B0 : Hid (Below w.heap.size w W0) := by
    show Below _ _ _
    rw [hW]; exact (Below.refl _ _).alloc (Nat.le_refl _) _
  have s0 : W0.cell? ⟨w.heap.size, 0, none⟩ = some (.string sc) := by rw [hW]; simp
  have s1 : W0.cell? ⟨w.heap.size, 1, none⟩ = some (.string uh) := by rw [hW]; simp
  have s2 : W0.cell? ⟨w.heap.size, 2, none⟩ = some (.int .i64 po) := by rw [hW]; simp
  have s3 : W0.cell? ⟨w.heap.size, 3, none⟩ = some (.string up) := by rw [hW]; simp
  have zU : w.heap.size < W0.heap.size := by rw [hW]; simp
  clear hW
  have EMP : Hid (∀ W, Below w.heap.size w W → SliceP (W.alloc (.cells #[] 99)) w.heap.size (.slice (some ⟨W.heap.size, 0, none⟩) 0 0) [] ∧ Below w.heap.size w (W.alloc (.cells #[] 99))) := fun W hb => ⟨⟨_, _, rfl, fun h => absurd h (by simp)⟩, hb.alloc hb.size _⟩
  go_enter Tryd.func25, Tryd.ntmps25
  go_upto_region 1 with fail
  rw [← hW0.out]
  clear hW0
  by_cases h400 : L.length ≤ 400
  case neg =>
    have q0 : decide ((400 : Int) < (L.length : Int)) = true := by rw [decide_eq_true_iff]; omega
    have HZ : Hid (Z = []) := HNo.out (by rw [HJ.out (by omega)]; rfl)
    go_wp2
    go_ret
    exact ⟨_, rfl, by rw [HZ.out]; exact (EMP.out _ B0.out).1, (EMP.out _ B0.out).2⟩
  have q0 : decide ((400 : Int) < (L.length : Int)) = false := by rw [decide_eq_false_iff_not]; omega
  by_cases h8 : part.size ≤ 8000
  case neg =>
    have q1 : decide ((8000 : Int) < (part.size : Int)) = true := by rw [decide_eq_true_iff]; omega
    have HZ : Hid (Z = []) := HNo.out (by rw [HPt.out (by omega), Bool.and_false]; rfl)
    go_wp2
    go_ret
    exact ⟨_, rfl, by rw [HZ.out]; exact (EMP.out _ B0.out).1, (EMP.out _ B0.out).2⟩
  have q1 : decide ((8000 : Int) < (part.size : Int)) = false := by rw [decide_eq_false_iff_not]; omega
  go_wp2_with fail
  refine (KJ.out _ B0.out).mono ?_
  rintro e w1 ⟨rfl, hb1⟩
  have B1 : Hid (Below w.heap.size w w1) := B0.out.trans (hb1.mono B0.out.size)
  have d0 := ((bcell hb1).1 _ _ zU).trans s0
  have d1 := ((bcell hb1).1 _ _ zU).trans s1
  have d2 := ((bcell hb1).1 _ _ zU).trans s2
  have d3 := ((bcell hb1).1 _ _ zU).trans s3
  have z1 : w.heap.size < w1.heap.size := Nat.lt_of_lt_of_le zU hb1.size
  clear hb1 B0 KJ s0 s1 s2 s3
  cases bj with
  | false =>
    have HZ : Hid (Z = []) := HNo.out rfl
    go_wp2
    go_ret
    exact ⟨_, rfl, by rw [HZ.out]; exact (EMP.out _ B1.out).1, (EMP.out _ B1.out).2⟩
  | true =>
  go_wp2_with fail
  refine (KU.out _).mono ?_
  rintro e w2 ⟨rfl, hb2⟩
  have B2 : Hid (Below w.heap.size w w2) := B1.out.trans (hb2.mono B1.out.size)
  have e0 := ((bcell hb2).1 _ _ z1).trans d0
  have e1 := ((bcell hb2).1 _ _ z1).trans d1
  have e2 := ((bcell hb2).1 _ _ z1).trans d2
  have e3 := ((bcell hb2).1 _ _ z1).trans d3
  clear hb2 B1 KU d0 d1 d2 d3
  cases bu with
  | false =>
    have HZ : Hid (Z = []) := HNo.out rfl
    go_wp2
    go_ret
    exact ⟨_, rfl, by rw [HZ.out]; exact (EMP.out _ B2.out).1, (EMP.out _ B2.out).2⟩
  | true =>
  go_wp2_with fail
  refine (KP.out _).mono ?_
  rintro e w3 ⟨rfl, rfl⟩
  cases bp with
  | false =>
    have HZ : Hid (Z = []) := HNo.out rfl
    go_wp2
    go_ret
    exact ⟨_, rfl, by rw [HZ.out]; exact (EMP.out _ B2.out).1, (EMP.out _ B2.out).2⟩
  | true =>
  go_wp2_with fail
  refine (KT.out _).mono ?_
  rintro e w4 ⟨rfl, rfl⟩
  cases bt with
  | false =>
    have HZ : Hid (Z = []) := HNo.out rfl
    go_wp2
    go_ret
    exact ⟨_, rfl, by rw [HZ.out]; exact (EMP.out _ B2.out).1, (EMP.out _ B2.out).2⟩
  | true =>
  have HZ : Hid (Z = Y) := HY.out rfl
  have KF1 := KF.out (by trivial) (by trivial)
  have KF2 : Hid (∀ W, Below w.heap.size w W → Calls Tryd.prog 75 #[.slice q L.length cap, .agg #[.string sc, .string uh, .int .i64 po, .string up], .string part, .bool wide, .bool near, .int .i64 now] W fun e w' => ∃ v', e = .returned v' ∧ SliceP w' W.heap.size v' Y ∧ Below W.heap.size W w') := KF1
  clear KF KF1
  go_wp2_with fail
  refine (KF2.out _ B2.out).mono ?_
  rintro e w5 ⟨v5, rfl, hs5, hb5⟩
  have S5 : Hid (SliceP w5 w.heap.size v5 Z) := by show SliceP _ _ _ _; rw [HZ.out]; exact SliceR.mono hs5 B2.out.size
  have B5 : Hid (Below w.heap.size w w5) := B2.out.trans (hb5.mono B2.out.size)
  clear hs5 hb5
  go_wp2
  go_ret
  exact ⟨_, rfl, S5.out, B5.out⟩
end Go.Proofs.YtimmoclemcnhnaaDoor

/- The walk of together: two texts put together in new memory. -/
namespace Go.Proofs.YtimmoclemcnhnaaDoor
open Go.RowKit


set_option maxRecDepth 10000 in
set_option maxHeartbeats 400000 in
theorem together_full (x y : ByteArray) (w : World) (hz : x.size + y.size ≤ 1000000) (hy : ¬ y = ByteArray.empty) :
    Calls Tryd.prog 58 #[.string x, .string y] w fun e w' => e = .returned (.string (x ++ y)) ∧ Below w.heap.size w w' := by
  obtain ⟨w1, Z, hmk, HG1, hZ, hs1, hb1⟩ := make_row (P := Tryd.prog) w 22 5 _ Tryd.underlying22 infoU8 ((x.size : Int) + (y.size : Int)) (x.size + y.size) (by omega) (by omega)
  go_enter Tryd.func58, Tryd.ntmps58
  go_wp2_with fail
  obtain ⟨w2, hc2, HG2, hs2, hB2⟩ := copy_text (P := Tryd.prog) w1 22 9 3 5 Tryd.underlying22 sizeU8 (some ⟨w.heap.size, 0, none⟩) (x.size + y.size) (x.size + y.size) x (by omega) w.heap.size 0 Z _ HG1 (fun _ => rfl) (by omega)
  have hb2 := hB2 _ _ hb1 (Nat.le_refl _)
  rw [hc2]
  clear hc2 hmk hB2 HG1 hb1
  go_wp2_with fail
  have hl2 : (splice Z 0 (Lib.byteCells x.data.toList)).length = x.size + y.size := by rw [length_splice _ _ _ (by rw [len_cells]; omega), hZ]
  obtain ⟨w3, hc3, HG3, hs3, hB3⟩ := copy_text (P := Tryd.prog) w2 22 9 3 5 Tryd.underlying22 sizeU8 (some ⟨w.heap.size, x.size, none⟩) y.size y.size y (by omega) w.heap.size x.size _ _ HG2 (fun _ => rfl) (by omega)
  have hb3 := hB3 _ _ hb2 (Nat.le_refl _)
  have HG4 : RowAt w3 w.heap.size 5 (Lib.byteCells (x.data.toList ++ y.data.toList) ++ []) := by
    have e := splice_two Z (Lib.byteCells x.data.toList) (Lib.byteCells y.data.toList) (by rw [len_cells, len_cells]; exact hZ)
    rw [len_cells] at e
    rw [e, ← byteCells_append, ← List.append_nil (Lib.byteCells _)] at HG3
    exact HG3
  rw [hc3]
  clear hc3 hB3 HG2 HG3 hb2 hl2
  go_wp2_with fail
  rw [text_of_row (P := Tryd.prog) w3 22 9 5 Tryd.underlying22 Tryd.underlying5 Tryd.underlying9 w.heap.size (x.size + y.size) (x.size + y.size) 5 _ _ HG4 (by rw [List.length_append, ← Lib.size_eq, ← Lib.size_eq])]
  go_wp2
  go_ret
  exact ⟨ret_text (text_append x y), hb3⟩

set_option maxRecDepth 10000 in
set_option maxHeartbeats 400000 in
theorem together_empty (x : ByteArray) (w : World) (hz : x.size ≤ 1000000) :
    Calls Tryd.prog 58 #[.string x, .string ByteArray.empty] w fun e w' => e = .returned (.string x) ∧ Below w.heap.size w w' := by
  obtain ⟨w1, Z, hmk, HG1, hZ, hs1, hb1⟩ := make_row (P := Tryd.prog) w 22 5 _ Tryd.underlying22 infoU8 (x.size : Int) x.size (by omega) (by omega)
  go_enter Tryd.func58, Tryd.ntmps58
  go_wp2_with fail
  obtain ⟨w2, hc2, HG2, hs2, hB2⟩ := copy_text (P := Tryd.prog) w1 22 9 3 5 Tryd.underlying22 sizeU8 (some ⟨w.heap.size, 0, none⟩) x.size x.size x (by omega) w.heap.size 0 Z _ HG1 (fun _ => rfl) (by omega)
  have hb2 := hB2 _ _ hb1 (Nat.le_refl _)
  rw [hc2]
  clear hc2 hmk hB2 HG1 hb1
  go_wp2_with fail
  have HG4 : RowAt w2 w.heap.size 5 (Lib.byteCells x.data.toList ++ []) := by
    have e : splice Z 0 (Lib.byteCells x.data.toList) = Lib.byteCells x.data.toList ++ [] := by
      unfold splice
      rw [List.drop_eq_nil_of_le (by rw [len_cells]; omega)]
      simp
    rw [e] at HG2
    exact HG2
  rw [Lib.run_copy_empty_string (P := Tryd.prog) w2 22 9 3 5 (some ⟨w.heap.size, 0, none⟩) 0 0 ByteArray.empty Tryd.underlying22 (by rw [Option.isSome_iff_exists]; exact ⟨1, sizeU8⟩) rfl]
  go_wp2_with fail
  rw [text_of_row (P := Tryd.prog) w2 22 9 5 Tryd.underlying22 Tryd.underlying5 Tryd.underlying9 w.heap.size x.size x.size 5 _ _ HG4 (by rw [← Lib.size_eq])]
  go_wp2
  go_ret
  exact ⟨rfl, hb2⟩
theorem together_any (x y : ByteArray) (w : World) (hz : x.size + y.size ≤ 1000000) :
    Calls Tryd.prog 58 #[.string x, .string y] w fun e w' => e = .returned (.string (x ++ y)) ∧ Below w.heap.size w w' := by
  by_cases hy : y = ByteArray.empty
  · subst hy
    rw [ByteArray.append_empty]
    exact together_empty x w (by omega)
  · exact together_full x y w hz hy

end Go.Proofs.YtimmoclemcnhnaaDoor

/- The walk of the program's JarFor. Written by impljarfor.py. -/
namespace Go.Proofs.YtimmoclemcnhnaaDoor
open Go.RowKit

theorem go_small {c : Ck} (h : ckB c = true) : c.na.size ≤ 1000 ∧ c.va.size ≤ 1000 ∧ c.ho.size ≤ 1000 := by
  obtain ⟨h1, h2, h3, -⟩ := ckB_parts h
  have a := wordB_size h1
  have b := wordB_size h2
  have d : c.ho.size ≤ 100 := by
    by_cases hz : 100 < c.ho.size
    · rw [hostB_size hz] at h3; cases h3
    · omega
  omega
theorem pairTo_succ {M : List Ck} {m : Nat} (h : m < M.length) : (M.take (m + 1)).map pairOf = (M.take m).map pairOf ++ [((atC M m).na, (atC M m).va)] := by
  have e : atC M m = M[m] := by simp [atC, h]
  rw [List.take_succ_eq_append_getElem h, List.map_append, e]; rfl
set_option maxRecDepth 10000 in
set_option maxHeartbeats 16000000 in
theorem jarFor_any (v : Value) (L : List Ck) (sc uh : ByteArray) (po : Int) (up part : ByteArray) (wide near : Bool) (now : Int) (B : Nat) (w : World) (hG : MaxI w) (hs : SliceC w B v L) (hn : L.length ≤ 1048576) (hz : ∀ i, i < L.length → (atC L i).ho.size ≤ 1048576) (hu : uh.size ≤ 1048576) :
    Calls Tryd.prog 28 #[v, .agg #[.string sc, .string uh, .int .i64 po, .string up], .string part, .bool wide, .bool near, .int .i64 now] w fun e w' => ∃ v', e = .returned v' ∧ SliceP w' w.heap.size v' (forZ L sc uh po up part wide near now) ∧ Below w.heap.size w w' := by
  have KJ : Hid (∀ W, Below w.heap.size w W → Calls Tryd.prog 77 #[v] W fun e w' => e = .returned (.bool (jarB L)) ∧ Below W.heap.size W w') := fun W hb => jarRight_any v L B W (hG.on hb) (hs.below hb) hn hz
  have KU : Hid (∀ W, Below w.heap.size w W → Calls Tryd.prog 78 #[.agg #[.string sc, .string uh, .int .i64 po, .string up]] W fun e w' => e = .returned (.bool (urlB sc uh up po)) ∧ Below W.heap.size W w') := fun W hb => urlRight_any sc uh up po W (hG.on hb) hu
  have KP : Hid (∀ W, Calls Tryd.prog 79 #[.string part] W fun e w' => e = .returned (.bool (partB part)) ∧ w' = W) := fun W => partRight_any part W
  have KN : Hid (∀ W, Calls Tryd.prog 80 #[.int .i64 now] W fun e w' => e = .returned (.bool (timeB now)) ∧ w' = W) := fun W => isTime_any now W
  have KG : Hid (∀ j, j < L.length → ∀ W, Below w.heap.size w W → Calls Tryd.prog 81 #[.agg #[.string sc, .string uh, .int .i64 po, .string up, .string part, .bool wide, .bool near, .int .i64 now], ckV (atC L j)] W fun e w' => e = .returned (.bool (goB (atC L j) sc uh up part wide near now)) ∧ Below W.heap.size W w') := fun j hj W hb => takes_any sc uh po up part wide near now (atC L j) W (hG.on hb) hu (hz j hj)
  have KT : Hid (∀ x : ByteArray, x.size ≤ 1000 → ∀ W, Calls Tryd.prog 58 #[.string x, .string ⟨#[]⟩] W fun e w' => e = .returned (.string x) ∧ Below W.heap.size W w') := fun x hx W => by
    have h := together_any x ⟨#[]⟩ W (by show x.size + 0 ≤ 1000000; omega)
    have e : x ++ (⟨#[]⟩ : ByteArray) = x := by apply ByteArray.ext; simp
    rw [e] at h; exact h
  have HNo : Hid ((jarB L && urlB sc uh up po && partB part && timeB now) = false → forZ L sc uh po up part wide near now = []) := fun h => by unfold forZ; rw [if_neg (by rw [h]; decide)]
  obtain ⟨pd, hpd⟩ : ∃ pd : Ck → Bool, pd = fun c => goB c sc uh up part wide near now := ⟨_, rfl⟩
  have HP : Hid (∀ j, goB (atC L j) sc uh up part wide near now = pd (atC L j)) := fun j => by rw [hpd]
  obtain ⟨F, hF⟩ : ∃ F : Nat → List Ck, F = fun k => byLen ((L.take k).filter pd) 40 := ⟨_, rfl⟩
  have HY : Hid ((jarB L && urlB sc uh up po && partB part && timeB now) = true → forZ L sc uh po up part wide near now = (F L.length).map pairOf) := fun h => by unfold forZ; rw [if_pos h, hF, hpd]; dsimp only; rw [List.take_length]
  have HF0 : Hid (F 0 = []) := by
    show _ = _
    have e : ∀ n, byLen ([] : List Ck) n = [] := fun n => List.length_eq_zero_iff.1 (by have := byLen_le [] n; simpa using this)
    rw [hF]; exact e 40
  have HSt : Hid (jarB L = true → ∀ k, k < L.length → pd (atC L k) = true → ∃ H T, F k = H ++ T ∧ F (k + 1) = H ++ atC L k :: T ∧ (H ++ T).length ≤ 12 ∧ (∀ d, d ∈ H → nearI d (atC L k) ≤ 0) ∧ ∀ d, d ∈ T → 0 < nearI d (atC L k)) := fun hj k hk hp => by rw [hF]; exact go_step hj hk hp
  have HPs : Hid (∀ k, k < L.length → pd (atC L k) = false → F (k + 1) = F k) := fun k hk hp => by rw [hF]; exact go_pass hk hp 40
  have HFL : Hid (jarB L = true → (F L.length).length ≤ 12) := fun hj => by
    have a := byLen_le ((L.take L.length).filter pd) 40
    have b := List.length_filter_le pd (L.take L.length)
    have c := (jarB_parts hj).1
    rw [List.length_take] at b
    rw [hF]; dsimp only; omega
  have HFS : Hid (jarB L = true → ∀ i, i < (F L.length).length → (atC (F L.length) i).na.size ≤ 1000 ∧ (atC (F L.length) i).va.size ≤ 1000) := fun hj i hi => by
    rw [hF] at hi ⊢
    dsimp only at hi ⊢
    rw [List.take_length] at hi ⊢
    obtain ⟨m, hm, e⟩ := byLen_in hi
    rw [e]
    have := go_small (okJ_right ((jarB_parts hj).2 m hm))
    exact ⟨this.1, this.2.1⟩
  clear hF hpd
  have HE : Hid (∀ (W : World) (B : Nat), SliceP W B (.slice none 0 0) []) := fun W B => sliceR_none W B 2 none 0 _
  obtain ⟨i0, hi, hy0, hy1, hy2⟩ := info_parts infoPairS
  obtain ⟨⟨q, cap, rfl, hg⟩, -⟩ := hs
  have HG : Hid (0 < L.length → ∃ g, q = some ⟨g, 0, none⟩ ∧ g < w.heap.size ∧ ∀ j, j < L.length → ∀ o, o < 10 → w.cell? ⟨g, j * 10 + o, none⟩ = some (ckC (atC L j) o)) := fun h0 => by
    obtain ⟨g, e, -, hgw, hc⟩ := hg h0
    exact ⟨g, e, hgw, fun j hj o ho => (hc j hj o ho).1⟩
  clear hz hg hG
  generalize forZ L sc uh po up part wide near now = Z at *
  generalize jarB L = bj at *
  generalize urlB sc uh up po = bu at *
  generalize partB part = bp at *
  generalize timeB now = bt at *
  obtain ⟨W0, hW⟩ : ∃ W0, W0 = w.alloc (.cells #[.string sc, .string uh, .int .i64 po, .string up] 45) := ⟨_, rfl⟩
  have hW0 : Hid (W0 = w.alloc (.cells #[.string sc, .string uh, .int .i64 po, .string up] 45)) := hW
  have B0 : Hid (Below w.heap.size w W0) := by
    show Below _ _ _
    rw [hW]; exact (Below.refl _ _).alloc (Nat.le_refl _) _
  have s0 : W0.cell? ⟨w.heap.size, 0, none⟩ = some (.string sc) := by rw [hW]; simp
  have s1 : W0.cell? ⟨w.heap.size, 1, none⟩ = some (.string uh) := by rw [hW]; simp
  have s2 : W0.cell? ⟨w.heap.size, 2, none⟩ = some (.int .i64 po) := by rw [hW]; simp
  have s3 : W0.cell? ⟨w.heap.size, 3, none⟩ = some (.string up) := by rw [hW]; simp
  have zU : w.heap.size < W0.heap.size := by rw [hW]; simp
  clear hW
  go_enter Tryd.func28, Tryd.ntmps28
  go_upto_region 1 with fail
  rw [← hW0.out]
  clear hW0
  go_wp2_with fail
  refine (KJ.out _ B0.out).mono ?_
  rintro e w1 ⟨rfl, hb1⟩
  have B1 : Hid (Below w.heap.size w w1) := B0.out.trans (hb1.mono B0.out.size)
  have d0 := ((bcell hb1).1 _ _ zU).trans s0
  have d1 := ((bcell hb1).1 _ _ zU).trans s1
  have d2 := ((bcell hb1).1 _ _ zU).trans s2
  have d3 := ((bcell hb1).1 _ _ zU).trans s3
  have z1 : w.heap.size < w1.heap.size := Nat.lt_of_lt_of_le zU hb1.size
  clear hb1 B0 KJ s0 s1 s2 s3
  cases bj with
  | false =>
    have HZ : Hid (Z = []) := HNo.out rfl
    go_wp2
    go_ret
    exact ⟨_, rfl, by rw [HZ.out]; exact HE.out _ _, B1.out⟩
  | true =>
  go_wp2_with fail
  refine (KU.out _ B1.out).mono ?_
  rintro e w2 ⟨rfl, hb2⟩
  have B2 : Hid (Below w.heap.size w w2) := B1.out.trans (hb2.mono B1.out.size)
  have e0 := ((bcell hb2).1 _ _ z1).trans d0
  have e1 := ((bcell hb2).1 _ _ z1).trans d1
  have e2 := ((bcell hb2).1 _ _ z1).trans d2
  have e3 := ((bcell hb2).1 _ _ z1).trans d3
  clear hb2 B1 KU d0 d1 d2 d3
  cases bu with
  | false =>
    have HZ : Hid (Z = []) := HNo.out rfl
    go_wp2
    go_ret
    exact ⟨_, rfl, by rw [HZ.out]; exact HE.out _ _, B2.out⟩
  | true =>
  go_wp2_with fail
  refine (KP.out _).mono ?_
  rintro e w3 ⟨rfl, rfl⟩
  cases bp with
  | false =>
    have HZ : Hid (Z = []) := HNo.out rfl
    go_wp2
    go_ret
    exact ⟨_, rfl, by rw [HZ.out]; exact HE.out _ _, B2.out⟩
  | true =>
  go_wp2_with fail
  refine (KN.out _).mono ?_
  rintro e w4 ⟨rfl, rfl⟩
  cases bt with
  | false =>
    have HZ : Hid (Z = []) := HNo.out rfl
    go_wp2
    go_ret
    exact ⟨_, rfl, by rw [HZ.out]; exact HE.out _ _, B2.out⟩
  | true =>
  have HZ : Hid (Z = (F L.length).map pairOf) := HY.out (by rfl)
  have HSt1 := HSt.out (by trivial)
  have HFL1 := HFL.out (by trivial)
  have HFS1 := HFS.out (by trivial)
  have HSt : Hid (∀ k, k < L.length → pd (atC L k) = true → ∃ H T, F k = H ++ T ∧ F (k + 1) = H ++ atC L k :: T ∧ (H ++ T).length ≤ 12 ∧ (∀ d, d ∈ H → nearI d (atC L k) ≤ 0) ∧ ∀ d, d ∈ T → 0 < nearI d (atC L k)) := HSt1
  have HFS : Hid (∀ i, i < (F L.length).length → (atC (F L.length) i).na.size ≤ 1000 ∧ (atC (F L.length) i).va.size ≤ 1000) := HFS1
  clear HSt1 HFS1 HY HNo KP KN HFL
  generalize hb0 : w4.heap.size = b at *
  obtain ⟨W1, hW1⟩ : ∃ W1, W1 = w4.alloc (.cells #[.string sc, .string uh, .int .i64 po, .string up, .string part, .bool wide, .bool near, .int .i64 now] 94) := ⟨_, rfl⟩
  have hW1h : Hid (W1 = w4.alloc (.cells #[.string sc, .string uh, .int .i64 po, .string up, .string part, .bool wide, .bool near, .int .i64 now] 94)) := hW1
  have BQ : Hid (Below w.heap.size w W1) := by
    show Below _ _ _
    rw [hW1]; exact B2.out.alloc B2.out.size _
  have r0 : W1.cell? ⟨b, 0, none⟩ = some (.string sc) := by rw [hW1, ← hb0]; simp
  have r1 : W1.cell? ⟨b, 1, none⟩ = some (.string uh) := by rw [hW1, ← hb0]; simp
  have r2 : W1.cell? ⟨b, 2, none⟩ = some (.int .i64 po) := by rw [hW1, ← hb0]; simp
  have r3 : W1.cell? ⟨b, 3, none⟩ = some (.string up) := by rw [hW1, ← hb0]; simp
  have r4 : W1.cell? ⟨b, 4, none⟩ = some (.string part) := by rw [hW1, ← hb0]; simp
  have r5 : W1.cell? ⟨b, 5, none⟩ = some (.bool wide) := by rw [hW1, ← hb0]; simp
  have r6 : W1.cell? ⟨b, 6, none⟩ = some (.bool near) := by rw [hW1, ← hb0]; simp
  have r7 : W1.cell? ⟨b, 7, none⟩ = some (.int .i64 now) := by rw [hW1, ← hb0]; simp
  have zb : b < W1.heap.size := by rw [hW1, ← hb0]; simp
  clear hW1
  go_upto_region 4 with fail
  rw [← hW1h.out]
  clear hW1h e0 e1 e2 e3 hb0 B2
  go_wp2
  go_loopw [14, 46] (fun x i wr => ∃ k : Nat, k ≤ L.length ∧ i = .int .i64 k ∧ Hid (SliceC wr w.heap.size x (F k)) ∧ Hid ((F k).length = 0 → x = .slice none 0 0) ∧ Hid (Below W1.heap.size W1 wr)) (fun _ i _ => L.length - (intOf i).toNat)
  case atStart => exact ⟨0, Nat.zero_le _, rfl, by show SliceC _ _ _ _; rw [HF0.out]; exact ⟨sliceR_none _ _ _ _ _ _, none, 0, rfl, Nat.le_refl _⟩, fun _ => rfl, Below.refl _ _⟩
  case round =>
    obtain ⟨k, hk, rfl, HS, HN, HB⟩ := hrel
    have BR : Hid (Below w.heap.size w wr) := BQ.out.trans (HB.out.mono BQ.out.size)
    by_cases hlt : k < L.length
    · obtain ⟨g, rfl, hgw, hc⟩ := HG.out (by omega)
      have HC : Hid (∀ j, j < L.length → ∀ o, o < 10 → w.cell? ⟨g, j * 10 + o, none⟩ = some (ckC (atC L j) o)) := hc
      clear hc
      have k0 : (0 : Int) ≤ k := by omega
      have k1 : (k : Int) < L.length := by omega
      have c0 : wr.cell? ⟨g, k * 10, none⟩ = some (.string (atC L k).na) := by rw [(bcell BR.out).1 _ _ hgw]; exact HC.out k hlt 0 (by omega)
      have c1 : wr.cell? ⟨g, k * 10 + 1, none⟩ = some (.string (atC L k).va) := by rw [(bcell BR.out).1 _ _ hgw]; exact HC.out k hlt 1 (by omega)
      have c2 : wr.cell? ⟨g, k * 10 + 2, none⟩ = some (.string (atC L k).ho) := by rw [(bcell BR.out).1 _ _ hgw]; exact HC.out k hlt 2 (by omega)
      have c3 : wr.cell? ⟨g, k * 10 + 3, none⟩ = some (.bool (atC L k).al) := by rw [(bcell BR.out).1 _ _ hgw]; exact HC.out k hlt 3 (by omega)
      have c4 : wr.cell? ⟨g, k * 10 + 4, none⟩ = some (.string (atC L k).pa) := by rw [(bcell BR.out).1 _ _ hgw]; exact HC.out k hlt 4 (by omega)
      have c5 : wr.cell? ⟨g, k * 10 + 5, none⟩ = some (.bool (atC L k).se) := by rw [(bcell BR.out).1 _ _ hgw]; exact HC.out k hlt 5 (by omega)
      have c6 : wr.cell? ⟨g, k * 10 + 6, none⟩ = some (.int .i64 (atC L k).mo) := by rw [(bcell BR.out).1 _ _ hgw]; exact HC.out k hlt 6 (by omega)
      have c7 : wr.cell? ⟨g, k * 10 + 7, none⟩ = some (.string (atC L k).pt) := by rw [(bcell BR.out).1 _ _ hgw]; exact HC.out k hlt 7 (by omega)
      have c8 : wr.cell? ⟨g, k * 10 + 8, none⟩ = some (.int .i64 (atC L k).un) := by rw [(bcell BR.out).1 _ _ hgw]; exact HC.out k hlt 8 (by omega)
      have c9 : wr.cell? ⟨g, k * 10 + 9, none⟩ = some (.int .i64 (atC L k).ma) := by rw [(bcell BR.out).1 _ _ hgw]; exact HC.out k hlt 9 (by omega)
      have q0 := ((bcell HB.out).1 _ _ zb).trans r0
      have q1 := ((bcell HB.out).1 _ _ zb).trans r1
      have q2 := ((bcell HB.out).1 _ _ zb).trans r2
      have q3 := ((bcell HB.out).1 _ _ zb).trans r3
      have q4 := ((bcell HB.out).1 _ _ zb).trans r4
      have q5 := ((bcell HB.out).1 _ _ zb).trans r5
      have q6 := ((bcell HB.out).1 _ _ zb).trans r6
      have q7 := ((bcell HB.out).1 _ _ zb).trans r7
      have zr : b < wr.heap.size := Nat.lt_of_lt_of_le zb HB.out.size
      have KG1 := KG.out k hlt
      have HSt2 := HSt.out k hlt
      have HPs2 := HPs.out k hlt
      rw [HP.out k] at KG1
      generalize pd (atC L k) = pk at *
      generalize atC L k = y at *
      obtain ⟨na, va, ho, al, pa, se, mo, pt, un, ma⟩ := y
      dsimp only at *
      have KG1 : Hid (∀ W, Below w.heap.size w W → Calls Tryd.prog 81 #[.agg #[.string sc, .string uh, .int .i64 po, .string up, .string part, .bool wide, .bool near, .int .i64 now], .agg #[.string na, .string va, .string ho, .bool al, .string pa, .bool se, .int .i64 mo, .string pt, .int .i64 un, .int .i64 ma]] W fun e w' => e = .returned (.bool pk) ∧ Below W.heap.size W w') := KG1
      obtain ⟨W5, hW⟩ : ∃ W5, W5 = wr.alloc (.cells #[.string na, .string va, .string ho, .bool al, .string pa, .bool se, .int .i64 mo, .string pt, .int .i64 un, .int .i64 ma] 90) := ⟨_, rfl⟩
      have hW5 : Hid (W5 = wr.alloc (.cells #[.string na, .string va, .string ho, .bool al, .string pa, .bool se, .int .i64 mo, .string pt, .int .i64 un, .int .i64 ma] 90)) := hW
      have A5 : Hid (Below wr.heap.size wr W5) := by show Below _ _ _; rw [hW]; exact (Below.refl _ _).alloc (Nat.le_refl _) _
      have n0 : W5.cell? ⟨wr.heap.size, 0, none⟩ = some (.string na) := by rw [hW]; simp
      have n1 : W5.cell? ⟨wr.heap.size, 1, none⟩ = some (.string va) := by rw [hW]; simp
      have n2 : W5.cell? ⟨wr.heap.size, 2, none⟩ = some (.string ho) := by rw [hW]; simp
      have n3 : W5.cell? ⟨wr.heap.size, 3, none⟩ = some (.bool al) := by rw [hW]; simp
      have n4 : W5.cell? ⟨wr.heap.size, 4, none⟩ = some (.string pa) := by rw [hW]; simp
      have n5 : W5.cell? ⟨wr.heap.size, 5, none⟩ = some (.bool se) := by rw [hW]; simp
      have n6 : W5.cell? ⟨wr.heap.size, 6, none⟩ = some (.int .i64 mo) := by rw [hW]; simp
      have n7 : W5.cell? ⟨wr.heap.size, 7, none⟩ = some (.string pt) := by rw [hW]; simp
      have n8 : W5.cell? ⟨wr.heap.size, 8, none⟩ = some (.int .i64 un) := by rw [hW]; simp
      have n9 : W5.cell? ⟨wr.heap.size, 9, none⟩ = some (.int .i64 ma) := by rw [hW]; simp
      have p0 : W5.cell? ⟨b, 0, none⟩ = some (.string sc) := ((bcell A5.out).1 _ _ zr).trans q0
      have p1 : W5.cell? ⟨b, 1, none⟩ = some (.string uh) := ((bcell A5.out).1 _ _ zr).trans q1
      have p2 : W5.cell? ⟨b, 2, none⟩ = some (.int .i64 po) := ((bcell A5.out).1 _ _ zr).trans q2
      have p3 : W5.cell? ⟨b, 3, none⟩ = some (.string up) := ((bcell A5.out).1 _ _ zr).trans q3
      have p4 : W5.cell? ⟨b, 4, none⟩ = some (.string part) := ((bcell A5.out).1 _ _ zr).trans q4
      have p5 : W5.cell? ⟨b, 5, none⟩ = some (.bool wide) := ((bcell A5.out).1 _ _ zr).trans q5
      have p6 : W5.cell? ⟨b, 6, none⟩ = some (.bool near) := ((bcell A5.out).1 _ _ zr).trans q6
      have p7 : W5.cell? ⟨b, 7, none⟩ = some (.int .i64 now) := ((bcell A5.out).1 _ _ zr).trans q7
      have hbW : wr.heap.size < W5.heap.size := by rw [hW]; simp
      clear hW
      go_upto_region 8 with fail
      rw [← hW5.out]
      clear hW5 c0 c1 c2 c3 c4 c5 c6 c7 c8 c9 q0 q1 q2 q3 q4 q5 q6 q7
      generalize hbb : wr.heap.size = b5 at *
      have B5 : Hid (Below w.heap.size w W5) := BR.out.trans (A5.out.mono (by rw [← hbb]; exact BR.out.size))
      go_wp2_with fail
      refine (KG1.out _ B5.out).mono ?_
      rintro e w6 ⟨rfl, hb6⟩
      have A6 : Hid (Below b5 wr w6) := A5.out.trans (hb6.mono (Nat.le_of_lt hbW))
      have x0 : w6.cell? ⟨b5, 0, none⟩ = some (.string na) := ((bcell hb6).1 _ _ hbW).trans n0
      have x1 : w6.cell? ⟨b5, 1, none⟩ = some (.string va) := ((bcell hb6).1 _ _ hbW).trans n1
      have x2 : w6.cell? ⟨b5, 2, none⟩ = some (.string ho) := ((bcell hb6).1 _ _ hbW).trans n2
      have x3 : w6.cell? ⟨b5, 3, none⟩ = some (.bool al) := ((bcell hb6).1 _ _ hbW).trans n3
      have x4 : w6.cell? ⟨b5, 4, none⟩ = some (.string pa) := ((bcell hb6).1 _ _ hbW).trans n4
      have x5 : w6.cell? ⟨b5, 5, none⟩ = some (.bool se) := ((bcell hb6).1 _ _ hbW).trans n5
      have x6 : w6.cell? ⟨b5, 6, none⟩ = some (.int .i64 mo) := ((bcell hb6).1 _ _ hbW).trans n6
      have x7 : w6.cell? ⟨b5, 7, none⟩ = some (.string pt) := ((bcell hb6).1 _ _ hbW).trans n7
      have x8 : w6.cell? ⟨b5, 8, none⟩ = some (.int .i64 un) := ((bcell hb6).1 _ _ hbW).trans n8
      have x9 : w6.cell? ⟨b5, 9, none⟩ = some (.int .i64 ma) := ((bcell hb6).1 _ _ hbW).trans n9
      have SI : Hid (SliceC w6 w.heap.size u14 (F k)) := HS.out.below (by rw [hbb]; exact A6.out)
      have BI : Hid (Below W1.heap.size W1 w6) := HB.out.trans (A6.out.mono (by rw [← hbb]; exact HB.out.size))
      clear hb6 KG1 HS BR B5 A5 A6 n0 n1 n2 n3 n4 n5 n6 n7 n8 n9 p0 p1 p2 p3 p4 p5 p6 p7
      cases pk with
      | false =>
        have HE2 := HPs2 rfl
        have SN : Hid (SliceC w6 w.heap.size u14 (F (k + 1))) := by show SliceC _ _ _ _; rw [HE2]; exact SI.out
        have HNN : Hid ((F (k + 1)).length = 0 → u14 = .slice none 0 0) := by rw [HE2]; exact HN
        clear HE2 HPs2 HSt2
        go_wp2
        go_roundw
        case rel => exact ⟨k + 1, by omega, by go_num, SN, HNN, BI⟩
        case measure => simp [intOf]; omega
      | true =>
        obtain ⟨H, T, f1, f2, f3, f4, f5⟩ := HSt2 rfl
        have KI : Hid (Calls Tryd.prog 82 #[u14, .agg #[.string na, .string va, .string ho, .bool al, .string pa, .bool se, .int .i64 mo, .string pt, .int .i64 un, .int .i64 ma], .func (.func 83) #[] #[]] w6 fun e w' => ∃ v', e = .returned v' ∧ SliceC w' w6.heap.size v' (F (k + 1)) ∧ Below w6.heap.size w6 w') := by
          rw [f2]
          exact inOrder_any H T ⟨na, va, ho, al, pa, se, mo, pt, un, ma⟩ u14 w.heap.size w6 (by rw [← f1]; exact HN.out) (by rw [← f1]; exact SI.out) (by omega) f4 f5
        have HL1 : Hid (0 < (F (k + 1)).length) := by show 0 < _; rw [f2, List.length_append, List.length_cons]; omega
        clear f1 f2 f3 f4 f5 HSt2 HPs2 SI HN
        go_wp2_with fail
        refine KI.out.mono ?_
        rintro e w7 ⟨v7, rfl, hs7, hb7⟩
        have BN : Hid (Below W1.heap.size W1 w7) := BI.out.trans (hb7.mono BI.out.size)
        have S7 : Hid (SliceC w7 w.heap.size v7 (F (k + 1))) := hs7.mono (Nat.le_trans BQ.out.size BI.out.size)
        have HNN : Hid ((F (k + 1)).length = 0 → v7 = .slice none 0 0) := fun h => absurd HL1.out (by omega)
        clear hs7 hb7 KI HL1
        go_wp2
        go_roundw
        case rel => exact ⟨k + 1, by omega, by go_num, S7, HNN, BN⟩
        case measure => simp [intOf]; omega
    · obtain rfl : k = L.length := by omega
      clear HN HG HSt HPs HP KG HF0 HB
      generalize F L.length = M at *
      obtain ⟨⟨q3, cap3, rfl, hg3⟩, -⟩ := HS.out
      have HG3 : Hid (0 < M.length → ∃ g, q3 = some ⟨g, 0, none⟩ ∧ g < wr.heap.size ∧ ∀ j, j < M.length → ∀ o, o < 10 → wr.cell? ⟨g, j * 10 + o, none⟩ = some (ckC (atC M j) o)) := fun h0 => by
        obtain ⟨g, e, -, hgw, hc⟩ := hg3 h0
        exact ⟨g, e, hgw, fun j hj o ho => (hc j hj o ho).1⟩
      clear hg3 HS
      obtain ⟨G, hGd⟩ : ∃ G : Nat → List (ByteArray × ByteArray), G = fun m => (M.take m).map pairOf := ⟨_, rfl⟩
      have HG0 : Hid (G 0 = []) := by show _ = _; rw [hGd]; rfl
      have HGL : Hid (∀ m, m ≤ M.length → (G m).length = m) := fun m hm => by rw [hGd]; simp; omega
      have HGS : Hid (∀ m, m < M.length → G (m + 1) = G m ++ [((atC M m).na, (atC M m).va)]) := fun m hm => by rw [hGd]; exact pairTo_succ hm
      have HGZ : Hid (Z = G M.length) := by show _ = _; rw [HZ.out, hGd]; dsimp only; rw [List.take_length]
      clear hGd HZ
      go_upto_region 11 with fail
      generalize hw3 : wr = W3 at *
      clear hw3
      obtain ⟨B3, hB3⟩ : ∃ B3, B3 = W3.heap.size := ⟨_, rfl⟩
      go_wp2
      go_loopw [17, 59] (fun x i wr => ∃ m : Nat, m ≤ M.length ∧ i = .int .i64 m ∧ Hid (wr.ownsRow B3 99 2 x m (pairCells (G m))) ∧ Hid (Below B3 W3 wr)) (fun _ i _ => M.length - (intOf i).toNat)
      case atStart => exact ⟨0, Nat.zero_le _, rfl, by show World.ownsRow _ _ _ _ _ _ _; rw [HG0.out]; exact World.ownsRow_nil _ _ _ _, Below.refl _ _⟩
      case round =>
        obtain ⟨m, hm, rfl, HO, HBs⟩ := hrel
        have hbs : B3 ≤ wr.heap.size := by rw [hB3]; exact HBs.out.size
        by_cases hlt : m < M.length
        · obtain ⟨g, rfl, hgw, hc⟩ := HG3.out (by omega)
          have k0 : (0 : Int) ≤ m := by omega
          have k1 : (m : Int) < M.length := by omega
          have c0 : wr.cell? ⟨g, m * 10, none⟩ = some (.string (atC M m).na) := by rw [HBs.out.cell (p := ⟨g, m * 10, none⟩) (by rw [hB3]; exact hgw)]; exact hc m hlt 0 (by omega)
          have c1 : wr.cell? ⟨g, m * 10 + 1, none⟩ = some (.string (atC M m).va) := by rw [HBs.out.cell (p := ⟨g, m * 10 + 1, none⟩) (by rw [hB3]; exact hgw)]; exact hc m hlt 1 (by omega)
          have c2 : wr.cell? ⟨g, m * 10 + 2, none⟩ = some (.string (atC M m).ho) := by rw [HBs.out.cell (p := ⟨g, m * 10 + 2, none⟩) (by rw [hB3]; exact hgw)]; exact hc m hlt 2 (by omega)
          have c3 : wr.cell? ⟨g, m * 10 + 3, none⟩ = some (.bool (atC M m).al) := by rw [HBs.out.cell (p := ⟨g, m * 10 + 3, none⟩) (by rw [hB3]; exact hgw)]; exact hc m hlt 3 (by omega)
          have c4 : wr.cell? ⟨g, m * 10 + 4, none⟩ = some (.string (atC M m).pa) := by rw [HBs.out.cell (p := ⟨g, m * 10 + 4, none⟩) (by rw [hB3]; exact hgw)]; exact hc m hlt 4 (by omega)
          have c5 : wr.cell? ⟨g, m * 10 + 5, none⟩ = some (.bool (atC M m).se) := by rw [HBs.out.cell (p := ⟨g, m * 10 + 5, none⟩) (by rw [hB3]; exact hgw)]; exact hc m hlt 5 (by omega)
          have c6 : wr.cell? ⟨g, m * 10 + 6, none⟩ = some (.int .i64 (atC M m).mo) := by rw [HBs.out.cell (p := ⟨g, m * 10 + 6, none⟩) (by rw [hB3]; exact hgw)]; exact hc m hlt 6 (by omega)
          have c7 : wr.cell? ⟨g, m * 10 + 7, none⟩ = some (.string (atC M m).pt) := by rw [HBs.out.cell (p := ⟨g, m * 10 + 7, none⟩) (by rw [hB3]; exact hgw)]; exact hc m hlt 7 (by omega)
          have c8 : wr.cell? ⟨g, m * 10 + 8, none⟩ = some (.int .i64 (atC M m).un) := by rw [HBs.out.cell (p := ⟨g, m * 10 + 8, none⟩) (by rw [hB3]; exact hgw)]; exact hc m hlt 8 (by omega)
          have c9 : wr.cell? ⟨g, m * 10 + 9, none⟩ = some (.int .i64 (atC M m).ma) := by rw [HBs.out.cell (p := ⟨g, m * 10 + 9, none⟩) (by rw [hB3]; exact hgw)]; exact hc m hlt 9 (by omega)
          have hzs := HFS.out m hlt
          have HGN : Hid (∀ (v : Value) (W : World), W.ownsRow B3 99 2 v (m + 1) (pairCells (G m) ++ [.string (atC M m).na, .string (atC M m).va]) → W.ownsRow B3 99 2 v (m + 1) (pairCells (G (m + 1)))) := fun v W h => by rw [HGS.out m hlt, ← pairCells_snoc]; exact h
          clear hc
          generalize atC M m = y at *
          obtain ⟨na, va, ho, al, pa, se, mo, pt, un, ma⟩ := y
          dsimp only at *
          obtain ⟨hz1, hz2⟩ := hzs
          obtain ⟨W8, hW⟩ : ∃ W8, W8 = wr.alloc (.cells #[.string na, .string va, .string ho, .bool al, .string pa, .bool se, .int .i64 mo, .string pt, .int .i64 un, .int .i64 ma] 90) := ⟨_, rfl⟩
          have hW8 : Hid (W8 = wr.alloc (.cells #[.string na, .string va, .string ho, .bool al, .string pa, .bool se, .int .i64 mo, .string pt, .int .i64 un, .int .i64 ma] 90)) := hW
          have A8 : Hid (Below wr.heap.size wr W8) := by show Below _ _ _; rw [hW]; exact (Below.refl _ _).alloc (Nat.le_refl _) _
          have n0 : W8.cell? ⟨wr.heap.size, 0, none⟩ = some (.string na) := by rw [hW]; simp
          have n1 : W8.cell? ⟨wr.heap.size, 1, none⟩ = some (.string va) := by rw [hW]; simp
          have z8 : wr.heap.size < W8.heap.size := by rw [hW]; simp
          have HLt : Hid (∀ j, u17.ownBlock = some j → j ≠ wr.heap.size) := fun j h => by have := (HO.out.lt j h).2; omega
          clear hW
          go_upto_region 15 with fail
          rw [← hW8.out]
          clear hW8 c0 c1 c2 c3 c4 c5 c6 c7 c8 c9
          generalize hb8 : wr.heap.size = b8 at *
          refine wp_region_held_drew (S := (fun w' => w'.cell? ⟨b8, 0, none⟩ = some (.string na) ∧ w'.cell? ⟨b8, 1, none⟩ = some (.string va))) (by kernel_rfl) ?_ (fun hH0 => ?_)
          · (try dsimp only)
            go_keep
          refine wpAnyH_take (i := 0) (oi := { dst := some 63, op := Op.move (Operand.tmp 17), type := 41, pos := "l06_jar.go:282", after := #[], guard := none }) (v := ?va0) rfl (by kernel_rfl) (by kernel_rfl) (by kernel_rfl) (fun _ _ _ h => h) (Or.inl ⟨by rfl, ?hya0⟩) (by assumption) ?resta0
          case hya0 =>
            intro w hSw
            (try dsimp only at hSw)
            go_simp
            try with_reducible rfl
          try simp only [Act.put, List.setIfInBounds_toArray, List.set_cons_zero, List.set_cons_succ]
          refine wpAnyH_take (i := 1) (oi := { dst := some 64, op := Op.fieldAddr 90 (Operand.tmp 19) 0, type := 0, pos := "l06_jar.go:282", after := #[], guard := none }) (v := ?va1) rfl (by kernel_rfl) (by kernel_rfl) (by kernel_rfl) (fun _ _ _ h => h) (Or.inl ⟨by rfl, ?hya1⟩) (by assumption) ?resta1
          case hya1 =>
            intro w hSw
            (try dsimp only at hSw)
            go_simp
            try with_reducible rfl
          try simp only [Act.put, List.setIfInBounds_toArray, List.set_cons_zero, List.set_cons_succ]
          refine wpAnyH_take (i := 2) (oi := { dst := some 65, op := Op.load 9 (Operand.tmp 64), type := 9, pos := "l06_jar.go:282", after := #[{ on := 1, ground := Ground.data }], guard := none }) (v := ?va2) rfl (by kernel_rfl) (by kernel_rfl) (by kernel_rfl) (fun _ _ _ h => h) (Or.inl ⟨by rfl, ?hya2⟩) (by assumption) ?resta2
          case hya2 =>
            intro w hSw
            (try dsimp only at hSw)
            go_simp
            try with_reducible rfl
          try simp only [Act.put, List.setIfInBounds_toArray, List.set_cons_zero, List.set_cons_succ]
          refine wpAnyH_take (i := 4) (oi := { dst := some 67, op := Op.fieldAddr 90 (Operand.tmp 19) 1, type := 0, pos := "l06_jar.go:282", after := #[], guard := none }) (v := ?va4) rfl (by kernel_rfl) (by kernel_rfl) (by kernel_rfl) (fun _ _ _ h => h) (Or.inl ⟨by rfl, ?hya4⟩) (by assumption) ?resta4
          case hya4 =>
            intro w hSw
            (try dsimp only at hSw)
            go_simp
            try with_reducible rfl
          try simp only [Act.put, List.setIfInBounds_toArray, List.set_cons_zero, List.set_cons_succ]
          refine wpAnyH_take (i := 5) (oi := { dst := some 68, op := Op.load 9 (Operand.tmp 67), type := 9, pos := "l06_jar.go:282", after := #[{ on := 4, ground := Ground.data }], guard := none }) (v := ?va5) rfl (by kernel_rfl) (by kernel_rfl) (by kernel_rfl) (fun _ _ _ h => h) (Or.inl ⟨by rfl, ?hya5⟩) (by assumption) ?resta5
          case hya5 =>
            intro w hSw
            (try dsimp only at hSw)
            go_simp
            try with_reducible rfl
          try simp only [Act.put, List.setIfInBounds_toArray, List.set_cons_zero, List.set_cons_succ]
          refine wpAnyH_ready (rs := [3]) (by kernel_rfl) (by simp) ?_
          refine AllReadyH.cons (o := { dst := some 66, op := Op.call { callee := Callee.value (Operand.func 58), args := #[Operand.tmp 65, Operand.const (Value.string { data := #[] })], argTypes := #[9, 9] }, type := 9, pos := "l06_jar.go:282", after := #[{ on := 2, ground := Ground.data }], guard := none }) rfl (fun K hK => ?_) AllReadyH.nil
          go_simp
          (go_at_call 58; refine (KT.out na hz1 _).mono ?_; rintro e w9 ⟨rfl, hb9⟩; have A9 : Below W8.heap.size W8 w9 := (Below.drew (Below.refl _ _)).trans hb9; have y0 := ((bcell A9).1 _ _ z8).trans n0; have y1 := ((bcell A9).1 _ _ z8).trans n1)
          try (go_wp2_with fail)
          refine hK.out _ _ ?_ (fun hH1 => ?_)
          · (try dsimp only)
            first | go_keep | (refine ⟨?_, ?_⟩ <;> assumption)
          clear hK K hH0
          try simp only [Act.put, List.setIfInBounds_toArray, List.set_cons_zero, List.set_cons_succ]
          refine wpAnyH_ready (rs := [6]) (by kernel_rfl) (by simp) ?_
          refine AllReadyH.cons (o := { dst := some 69, op := Op.call { callee := Callee.value (Operand.func 58), args := #[Operand.tmp 68, Operand.const (Value.string { data := #[] })], argTypes := #[9, 9] }, type := 9, pos := "l06_jar.go:282", after := #[{ on := 5, ground := Ground.data }, { on := 3, ground := Ground.chain }], guard := none }) rfl (fun K hK => ?_) AllReadyH.nil
          go_simp
          (go_at_call 58; refine (KT.out va hz2 _).mono ?_; rintro e wa ⟨rfl, hba⟩; have Aa : Below W8.heap.size W8 wa := A9.trans (hba.mono A9.size); have t0 := ((bcell Aa).1 _ _ z8).trans n0; have t1 := ((bcell Aa).1 _ _ z8).trans n1; have As : Hid (Below b8 wr wa) := A8.out.trans (Aa.mono (Nat.le_of_lt z8)); have Oa : Hid (wa.ownsRow B3 99 2 u17 m (pairCells (G m))) := ownR_below HO.out (by rw [hb8]; exact As.out); have zs : b8 < wa.heap.size := Nat.lt_of_lt_of_le z8 Aa.size; have hwa : B3 ≤ wa.heap.size := Nat.le_trans hbs (Nat.le_of_lt zs))
          try (go_wp2_with fail)
          refine hK.out _ _ ?_ (fun hH2 => ?_)
          · (try dsimp only)
            first | go_keep | (refine ⟨?_, ?_⟩ <;> assumption)
          clear hK K hH1
          try simp only [Act.put, List.setIfInBounds_toArray, List.set_cons_zero, List.set_cons_succ]
          refine wpAnyH_take (i := 7) (oi := { dst := some 70, op := Op.build 99 #[(0, Operand.tmp 66), (1, Operand.tmp 69)], type := 99, pos := "l06_jar.go:282", after := #[{ on := 3, ground := Ground.data }, { on := 6, ground := Ground.data }], guard := none }) (v := ?va7) rfl (by kernel_rfl) (by kernel_rfl) (by kernel_rfl) (fun _ _ _ h => h) (Or.inl ⟨by rfl, ?hya7⟩) (by assumption) ?resta7
          case hya7 =>
            intro w hSw
            (try dsimp only at hSw)
            go_simp
            try with_reducible rfl
          try simp only [Act.put, List.setIfInBounds_toArray, List.set_cons_zero, List.set_cons_succ]
          refine wpAnyH_ready (rs := [8]) (by kernel_rfl) (by simp) ?_
          refine AllReadyH.cons (o := { dst := some 71, op := Op.buildSlice 41 1 #[(0, Operand.tmp 70)], type := 41, pos := "l06_jar.go:282", after := #[{ on := 7, ground := Ground.data }], guard := none }) rfl (fun K hK => ?_) AllReadyH.nil
          go_simp
          (skip)
          try (go_wp2_with fail)
          refine hK.out _ _ ?_ (fun hH3 => ?_)
          · (try dsimp only)
            first | go_keep | (refine ⟨?_, ?_⟩ <;> assumption)
          clear hK K hH2
          try simp only [Act.put, List.setIfInBounds_toArray, List.set_cons_zero, List.set_cons_succ]
          refine wpAnyH_ready (rs := [9]) (by kernel_rfl) (by simp) ?_
          refine AllReadyH.cons (o := { dst := some 72, op := Op.call { callee := Callee.builtin Builtin.append, args := #[Operand.tmp 63, Operand.tmp 71], argTypes := #[41, 41] }, type := 41, pos := "l06_jar.go:282", after := #[{ on := 0, ground := Ground.data }, { on := 8, ground := Ground.data }, { on := 6, ground := Ground.chain }], guard := none }) rfl (fun K hK => ?_) AllReadyH.nil
          (rw [if_pos (by rfl)]; refine wp_append_own _ _ _ 41 rfl B3 99 i0 (.agg #[.string ⟨#[]⟩, .string ⟨#[]⟩]) 2 32 Tryd.underlying41 hi hy0 hy1 hy2 rfl (by decide) _ _ _ (by rfl) (Oa.out.alloc _) ⟨wa.heap.size, 0, none⟩ 1 1 [.string na, .string va] (by rfl) rfl (World.news_of_block (cs := #[.string na, .string va]) (t := 99) (fr := (0, 0)) (heap_alloc_new wa _)) (by simp [Value.oneCell']) (by unfold maxLen; omega) (by omega) (by simp; omega) ?_; intro v1 wb hob hgb hnb; have Bb : Hid (Below B3 W3 wb) := ((HBs.out.trans (As.out.mono hbs)).alloc hwa _).grown hgb (by simp; omega) (fun j hj => (Oa.out.lt j hj).1); have s0 := hgb.cell (a := ⟨b8, 0, none⟩) ((World.cell?_alloc_lt _ _ _ zs).trans t0) (fun e => HLt.out _ e.symm rfl); have s1 := hgb.cell (a := ⟨b8, 1, none⟩) ((World.cell?_alloc_lt _ _ _ zs).trans t1) (fun e => HLt.out _ e.symm rfl); have Ob := HGN.out _ _ hob; clear hob hgb hnb)
          refine hK.out _ _ ?_ (fun hH4 => ?_)
          · (try dsimp only)
            first | go_keep | (refine ⟨?_, ?_⟩ <;> assumption)
          clear hK K hH3
          try simp only [Act.put, List.setIfInBounds_toArray, List.set_cons_zero, List.set_cons_succ]
          refine wpAnyH_take (i := 10) (oi := { dst := some 17, op := Op.assign (Operand.tmp 72), type := 41, pos := "l06_jar.go:282", after := #[{ on := 9, ground := Ground.data }, { on := 9, ground := Ground.chain }, { on := 0, ground := Ground.phase }, { on := 1, ground := Ground.phase }, { on := 2, ground := Ground.phase }, { on := 3, ground := Ground.phase }, { on := 4, ground := Ground.phase }, { on := 5, ground := Ground.phase }, { on := 6, ground := Ground.phase }, { on := 7, ground := Ground.phase }, { on := 8, ground := Ground.phase }, { on := 9, ground := Ground.phase }], guard := none }) (v := ?va10) rfl (by kernel_rfl) (by kernel_rfl) (by kernel_rfl) (fun _ _ _ h => h) (Or.inl ⟨by rfl, ?hya10⟩) (by assumption) ?resta10
          case hya10 =>
            intro w hSw
            (try dsimp only at hSw)
            go_simp
            try with_reducible rfl
          try simp only [Act.put, List.setIfInBounds_toArray, List.set_cons_zero, List.set_cons_succ]
          refine wpAnyH_done (by kernel_rfl) ?_ _
          all_goals go_wp2
          have Oh : Hid (World.ownsRow wb B3 99 2 v1 (m + 1) (pairCells (G (m + 1)))) := Ob
          go_roundw
          case rel => exact ⟨m + 1, by omega, by go_num, Oh, Bb⟩
          case measure => simp [intOf]; omega
        · obtain rfl : m = M.length := by omega
          have BF : Hid (Below w.heap.size w wr) := BR.out.trans (HBs.out.mono (by rw [hB3]; exact BR.out.size))
          have SF : Hid (SliceP wr w.heap.size u17 Z) := by
            show SliceP _ _ _ _
            rw [HGZ.out]
            have h := HO.out
            rw [← HGL.out M.length (Nat.le_refl _)] at h
            exact (sliceP_of_own (by rw [HGL.out M.length (Nat.le_refl _)] at h ⊢; exact h)).mono (by rw [hB3]; exact BR.out.size)
          go_wp2
          go_ret
          exact ⟨_, rfl, SF.out, BF.out⟩
end Go.Proofs.YtimmoclemcnhnaaDoor

/- What the laws over a Url do besides their two calls: its size is looked at, and it is handed on field by field. -/
namespace Go.Proofs.YtimmoclemcnhnaaDoor
open Go.RowKit

set_option maxRecDepth 10000 in
set_option maxHeartbeats 400000 in
theorem szUrl_any (sc ho pa : ByteArray) (po : Int) (w : World) (h1 : sc.size ≤ maxLen) (h2 : ho.size ≤ maxLen) (h3 : pa.size ≤ maxLen) :
    Calls Tryd.prog 24 #[urlV sc ho pa po, .int .i64 1048576] w fun e w' => (∃ r : Int, e = .returned (.int .i64 r) ∧ (r < 0 ∨ (0 ≤ r ∧ sc.size + ho.size + pa.size ≤ 1048576))) ∧ Below w.heap.size w w' := by
  unfold maxLen at h1 h2 h3
  unfold urlV
  by_cases c1 : 1048576 < sc.size
  · have q1 : (1048576 : Int) - (sc.size : Int) < 0 := by omega
    go_enter Tryd.func24, Tryd.ntmps24
    go_wp2
    go_ret
    exact ⟨⟨-1, rfl, .inl (by omega)⟩, (Below.refl _ _).alloc (Nat.le_refl _) _⟩
  have q1 : decide ((1048576 : Int) - (sc.size : Int) < 0) = false := by rw [decide_eq_false_iff_not]; omega
  by_cases c2 : 1048576 < sc.size + ho.size
  · have q2 : (1048576 : Int) - (sc.size : Int) - (ho.size : Int) < 0 := by omega
    go_enter Tryd.func24, Tryd.ntmps24
    go_wp2
    go_ret
    exact ⟨⟨-1, rfl, .inl (by omega)⟩, (Below.refl _ _).alloc (Nat.le_refl _) _⟩
  have q2 : decide ((1048576 : Int) - (sc.size : Int) - (ho.size : Int) < 0) = false := by rw [decide_eq_false_iff_not]; omega
  by_cases c3 : 1048576 < sc.size + ho.size + pa.size
  · have q3 : (1048576 : Int) - (sc.size : Int) - (ho.size : Int) - (pa.size : Int) < 0 := by omega
    go_enter Tryd.func24, Tryd.ntmps24
    go_wp2
    go_ret
    exact ⟨⟨-1, rfl, .inl (by omega)⟩, (Below.refl _ _).alloc (Nat.le_refl _) _⟩
  have q3 : decide ((1048576 : Int) - (sc.size : Int) - (ho.size : Int) - (pa.size : Int) < 0) = false := by rw [decide_eq_false_iff_not]; omega
  go_enter Tryd.func24, Tryd.ntmps24
  go_wp2
  go_ret
  exact ⟨⟨(1048576 : Int) - (sc.size : Int) - (ho.size : Int) - (pa.size : Int), rfl, .inr ⟨by omega, by omega⟩⟩, (Below.refl _ _).alloc (Nat.le_refl _) _⟩

set_option maxRecDepth 10000 in
set_option maxHeartbeats 400000 in
theorem toUrl_any (sc ho pa : ByteArray) (po : Int) (w : World) :
    Calls Tryd.prog 27 #[urlV sc ho pa po] w fun e w' => e = .returned (urlV sc ho pa po) ∧ Below w.heap.size w w' := by
  have HV : Hid (urlV sc ho pa po = .agg #[.string sc, .string ho, .int .i64 po, .string pa]) := rfl
  rw [HV.out]
  go_enter Tryd.func27, Tryd.ntmps27
  go_wp2
  exact bodyPost_ret (v := .agg #[.string sc, .string ho, .int .i64 po, .string pa]) (by simp [results, Tryd.results27, go_sem]) rfl ⟨rfl, (((Below.refl _ _).alloc (Nat.le_refl _) _).alloc (by simp) _).alloc (by simp; omega) _⟩
end Go.Proofs.YtimmoclemcnhnaaDoor

/- The size of a Url against what is left; texts' sizes. -/
namespace Go.Proofs.YtimmoclemcnhnaaDoor
open Go.RowKit

set_option maxRecDepth 10000 in
set_option maxHeartbeats 400000 in
theorem szUrl_at (sc ho pa : ByteArray) (po l : Int) (w : World) (h1 : sc.size ≤ maxLen) (h2 : ho.size ≤ maxLen) (h3 : pa.size ≤ maxLen) (l0 : 0 ≤ l) (l1 : l ≤ 1048576) :
    Calls Tryd.prog 24 #[.agg #[.string sc, .string ho, .int .i64 po, .string pa], .int .i64 l] w fun e w' => (∃ r : Int, e = .returned (.int .i64 r) ∧ (r < 0 ∨ (0 ≤ r ∧ r ≤ 1048576 ∧ sc.size + ho.size + pa.size ≤ 1048576))) ∧ Below w.heap.size w w' := by
  unfold maxLen at h1 h2 h3
  by_cases c1 : l < sc.size
  · have q1 : l - (sc.size : Int) < 0 := by omega
    go_enter Tryd.func24, Tryd.ntmps24
    go_wp2
    go_ret
    exact ⟨⟨-1, rfl, .inl (by omega)⟩, (Below.refl _ _).alloc (Nat.le_refl _) _⟩
  have q1 : decide (l - (sc.size : Int) < 0) = false := by rw [decide_eq_false_iff_not]; omega
  by_cases c2 : l < sc.size + ho.size
  · have q2 : l - (sc.size : Int) - (ho.size : Int) < 0 := by omega
    go_enter Tryd.func24, Tryd.ntmps24
    go_wp2
    go_ret
    exact ⟨⟨-1, rfl, .inl (by omega)⟩, (Below.refl _ _).alloc (Nat.le_refl _) _⟩
  have q2 : decide (l - (sc.size : Int) - (ho.size : Int) < 0) = false := by rw [decide_eq_false_iff_not]; omega
  by_cases c3 : l < sc.size + ho.size + pa.size
  · have q3 : l - (sc.size : Int) - (ho.size : Int) - (pa.size : Int) < 0 := by omega
    go_enter Tryd.func24, Tryd.ntmps24
    go_wp2
    go_ret
    exact ⟨⟨-1, rfl, .inl (by omega)⟩, (Below.refl _ _).alloc (Nat.le_refl _) _⟩
  have q3 : decide (l - (sc.size : Int) - (ho.size : Int) - (pa.size : Int) < 0) = false := by rw [decide_eq_false_iff_not]; omega
  go_enter Tryd.func24, Tryd.ntmps24
  go_wp2
  go_ret
  exact ⟨⟨l - (sc.size : Int) - (ho.size : Int) - (pa.size : Int), rfl, .inr ⟨by omega, by omega, by omega⟩⟩, (Below.refl _ _).alloc (Nat.le_refl _) _⟩
end Go.Proofs.YtimmoclemcnhnaaDoor

/- The law FnExactJarRight, walked. -/
namespace Go.Proofs.YtimmoclemcnhnaaDoor
open Go.RowKit

/-- the texts of cookies are no longer than what is asked -/
def szJ (L : List Ck) : Prop := ∀ i, i < L.length → (atC L i).na.size + (atC L i).va.size + (atC L i).ho.size + (atC L i).pa.size + (atC L i).pt.size ≤ 1048576
end Go.Proofs.YtimmoclemcnhnaaDoor

/- The laws' markCookieS and heldCookieS over slices of cookies. Written by cookiesmark.py. -/
namespace Go.Proofs.YtimmoclemcnhnaaDoor
open Go.RowKit

/-- the mark of a cell, of a cookie whose first number is z -/
def markZ (z o : Nat) : Value := if o = 0 then .string (markT (z + 0)) else if o = 1 then .string (markT (z + 1)) else if o = 2 then .string (markT (z + 2)) else if o = 3 then .bool (((z : Int) + 1 + 1 + 1) % 3 == 0) else if o = 4 then .string (markT (z + 4)) else if o = 5 then .bool (((z : Int) + 1 + 1 + 1 + 1 + 1) % 3 == 0) else if o = 6 then .int .i64 ((z : Int) + 1 + 1 + 1 + 1 + 1 + 1) else if o = 7 then .string (markT (z + 7)) else if o = 8 then .int .i64 ((z : Int) + 1 + 1 + 1 + 1 + 1 + 1 + 1 + 1) else .int .i64 ((z : Int) + 1 + 1 + 1 + 1 + 1 + 1 + 1 + 1 + 1)
def markCkC (q j o : Nat) : Value := markZ (q + j * 10) o
def markedC (f : Nat → Nat → Value) (q k j o : Nat) : Value := if j < k then markCkC q j o else f j o
theorem SliceR.at10 {w : World} {B n m g cap : Nat} {f : Nat → Nat → Value} (hs : SliceR w B 10 (.slice (some ⟨g, 0, none⟩) m cap) n f) (k : Nat) (hk : k < n) : ∀ o, o < 10 → w.cell? ⟨g, k * 10 + o, none⟩ = some (f k o) ∧ w.frozen? ⟨g, k * 10 + o, none⟩ = false := by
  obtain ⟨p', cap', e, hh⟩ := hs
  injection e with e1
  obtain ⟨g', e2, -, -, hc⟩ := hh (by omega)
  rw [e2] at e1
  injection e1 with e1
  injection e1 with e1
  subst e1
  exact hc k hk
set_option maxRecDepth 10000 in
set_option maxHeartbeats 8000000 in
theorem markCookieS_any (a : Value) (n B q : Nat) (f : Nat → Nat → Value) (w : World) (ha : SliceR w B 10 a n f) (hn : n ≤ 1048576) (hq : 0 < q) (hq2 : q ≤ 20971520) :
    Calls Tryd.prog 31 #[a, .int .i64 (q : Int)] w fun e w' => e = .returned (.int .i64 ((q + n * 10 : Nat) : Int)) ∧ SliceR w' B 10 a n (markCkC q) ∧ (∀ G, (0 < n → a.ownBlock = some G) → w.grownBy w' (some G)) := by
  have HA : Hid (SliceR w B 10 a n f) := ha
  obtain ⟨p, cap, rfl, h1⟩ := ha
  have HG : Hid (0 < n → ∃ g, p = some ⟨g, 0, none⟩ ∧ B ≤ g ∧ g < w.heap.size) := fun h => by
    obtain ⟨g, e, h2, h3, -⟩ := h1 h
    exact ⟨g, e, h2, h3⟩
  clear h1
  have HM : Hid (∀ (m : Nat) (W : World), 0 < m → m ≤ 9223372036854775807 → Calls Tryd.prog 86 #[.int .i64 (m : Int)] W fun e w' => e = .returned (.string (markT m)) ∧ Below W.heap.size W w') := fun m W h1 h2 => markText_any m W h1 h2
  go_enter Tryd.func31, Tryd.ntmps31
  go_wp2
  go_loopw [1, 5] (fun kk i wr => ∃ k : Nat, k ≤ n ∧ i = .int .i64 k ∧ kk = .int .i64 ((q + k * 10 : Nat) : Int) ∧ Hid (SliceR wr B 10 (.slice p n cap) n (markedC f q k)) ∧ Hid (∀ G, (0 < n → (Value.slice p n cap).ownBlock = some G) → w.grownBy wr (some G))) (fun _ i _ => n - (intOf i).toNat)
  case atStart => exact ⟨0, by omega, rfl, by go_num, HA, fun _ _ => ⟨rfl, rfl, rfl, Nat.le_refl _, fun _ _ _ => rfl⟩⟩
  case round =>
    obtain ⟨k, hk, rfl, rfl, HR, HB⟩ := hrel
    by_cases hlt : k < n
    · obtain ⟨g, rfl, hBg, hgw⟩ := HG.out (by omega)
      have k0 : (0 : Int) ≤ k := by omega
      have k1 : (k : Int) < n := by omega
      have B0 : Hid (w.grownBy wr (some g)) := HB.out g (fun _ => rfl)
      have hzb : q + k * 10 ≤ 50000000 := by omega
      have hz0 : 0 < q + k * 10 := by omega
      have HEnd : Hid (∀ w', SliceR w' B 10 (.slice (some ⟨g, 0, none⟩) n cap) n (fun j o => if j = k then markZ (q + k * 10) o else markedC f q k j o) → SliceR w' B 10 (.slice (some ⟨g, 0, none⟩) n cap) n (markedC f q (k + 1))) := fun w' h => SliceR.congr h (fun j hj o ho => by
        unfold markedC markCkC
        by_cases e : j = k
        · subst e; rw [if_pos rfl, if_pos (by omega)]
        · rw [if_neg e]
          by_cases h : j < k
          · rw [if_pos h, if_pos (by omega)]
          · rw [if_neg h, if_neg (by omega)])
      have hnx : ((q + k * 10 : Nat) : Int) + 10 = ((q + (k + 1) * 10 : Nat) : Int) := by omega
      have HNX : Hid (((q + k * 10 : Nat) : Int) + 10 = ((q + (k + 1) * 10 : Nat) : Int)) := hnx
      clear hnx
      generalize markedC f q k = fm at *
      generalize q + k * 10 = zn at *
      have HN0 : Hid (∀ W, Calls Tryd.prog 86 #[.int .i64 ((zn : Int))] W fun e w' => e = .returned (.string (markT (zn + 0))) ∧ Below W.heap.size W w') := fun W => by
        have h := HM.out (zn + 0) W (by omega) (by omega)
        have e : ((zn + 0 : Nat) : Int) = (zn : Int) := by omega
        rw [e] at h; exact h
      have HN1 : Hid (∀ W, Calls Tryd.prog 86 #[.int .i64 ((zn : Int) + 1)] W fun e w' => e = .returned (.string (markT (zn + 1))) ∧ Below W.heap.size W w') := fun W => by
        have h := HM.out (zn + 1) W (by omega) (by omega)
        have e : ((zn + 1 : Nat) : Int) = (zn : Int) + 1 := by omega
        rw [e] at h; exact h
      have HN2 : Hid (∀ W, Calls Tryd.prog 86 #[.int .i64 ((zn : Int) + 1 + 1)] W fun e w' => e = .returned (.string (markT (zn + 2))) ∧ Below W.heap.size W w') := fun W => by
        have h := HM.out (zn + 2) W (by omega) (by omega)
        have e : ((zn + 2 : Nat) : Int) = (zn : Int) + 1 + 1 := by omega
        rw [e] at h; exact h
      have HN4 : Hid (∀ W, Calls Tryd.prog 86 #[.int .i64 ((zn : Int) + 1 + 1 + 1 + 1)] W fun e w' => e = .returned (.string (markT (zn + 4))) ∧ Below W.heap.size W w') := fun W => by
        have h := HM.out (zn + 4) W (by omega) (by omega)
        have e : ((zn + 4 : Nat) : Int) = (zn : Int) + 1 + 1 + 1 + 1 := by omega
        rw [e] at h; exact h
      have HN7 : Hid (∀ W, Calls Tryd.prog 86 #[.int .i64 ((zn : Int) + 1 + 1 + 1 + 1 + 1 + 1 + 1)] W fun e w' => e = .returned (.string (markT (zn + 7))) ∧ Below W.heap.size W w') := fun W => by
        have h := HM.out (zn + 7) W (by omega) (by omega)
        have e : ((zn + 7 : Nat) : Int) = (zn : Int) + 1 + 1 + 1 + 1 + 1 + 1 + 1 := by omega
        rw [e] at h; exact h
      have X0 : Hid (SliceR wr B 10 (.slice (some ⟨g, 0, none⟩) n cap) n fm) := HR
      clear HM HR HB
      go_wp2_with fail
      refine (HN0.out _).mono ?_
      rintro e u1 ⟨rfl, hb1⟩
      have S1 : Hid (SliceR u1 B 10 (.slice (some ⟨g, 0, none⟩) n cap) n fm) := SliceR.below (X0.out) hb1
      have G1 : Hid (w.grownBy u1 (some g)) := grownG_below (B0.out) hb1
      clear hb1
      have hx0 := (SliceR.at10 S1.out k hlt 0 (by omega)).1
      have hf0 := (SliceR.at10 S1.out k hlt 0 (by omega)).2
      rw [Nat.add_zero] at hx0 hf0
      generalize fm k 0 = y0 at hx0
      go_wp2_with fail
      refine (HN1.out _).mono ?_
      rintro e u2 ⟨rfl, hb2⟩
      have S2 : Hid (SliceR u2 B 10 (.slice (some ⟨g, 0, none⟩) n cap) n (updR fm k 0 (.string (markT (zn + 0))))) := SliceR.below (SliceR.set (S1.out) k 0 hlt (by omega) (.string (markT (zn + 0)))) hb2
      have G2 : Hid (w.grownBy u2 (some g)) := grownG_below (grownG_set (G1.out) (k * 10 + 0) (.string (markT (zn + 0)))) hb2
      clear hb2 hx0 hf0
      have hx1 := (SliceR.at10 S2.out k hlt 1 (by omega)).1
      have hf1 := (SliceR.at10 S2.out k hlt 1 (by omega)).2
      generalize (updR fm k 0 (.string (markT (zn + 0)))) k 1 = y1 at hx1
      go_wp2_with fail
      refine (HN2.out _).mono ?_
      rintro e u3 ⟨rfl, hb3⟩
      have S3 : Hid (SliceR u3 B 10 (.slice (some ⟨g, 0, none⟩) n cap) n (updR (updR fm k 0 (.string (markT (zn + 0)))) k 1 (.string (markT (zn + 1))))) := SliceR.below (SliceR.set (S2.out) k 1 hlt (by omega) (.string (markT (zn + 1)))) hb3
      have G3 : Hid (w.grownBy u3 (some g)) := grownG_below (grownG_set (G2.out) (k * 10 + 1) (.string (markT (zn + 1)))) hb3
      clear hb3 hx1 hf1
      have hx2 := (SliceR.at10 S3.out k hlt 2 (by omega)).1
      have hf2 := (SliceR.at10 S3.out k hlt 2 (by omega)).2
      generalize (updR (updR fm k 0 (.string (markT (zn + 0)))) k 1 (.string (markT (zn + 1)))) k 2 = y2 at hx2
      have hx3 := (SliceR.at10 S3.out k hlt 3 (by omega)).1
      have hf3 := (SliceR.at10 S3.out k hlt 3 (by omega)).2
      generalize (updR (updR fm k 0 (.string (markT (zn + 0)))) k 1 (.string (markT (zn + 1)))) k 3 = y3 at hx3
      go_wp2_with fail
      refine (HN4.out _).mono ?_
      rintro e u4 ⟨rfl, hb4⟩
      have S4 : Hid (SliceR u4 B 10 (.slice (some ⟨g, 0, none⟩) n cap) n (updR (updR (updR (updR fm k 0 (.string (markT (zn + 0)))) k 1 (.string (markT (zn + 1)))) k 2 (.string (markT (zn + 2)))) k 3 (.bool (((zn : Int) + 1 + 1 + 1) % 3 == 0)))) := SliceR.below (SliceR.set (SliceR.set (S3.out) k 2 hlt (by omega) (.string (markT (zn + 2)))) k 3 hlt (by omega) (.bool (((zn : Int) + 1 + 1 + 1) % 3 == 0))) hb4
      have G4 : Hid (w.grownBy u4 (some g)) := grownG_below (grownG_set (grownG_set (G3.out) (k * 10 + 2) (.string (markT (zn + 2)))) (k * 10 + 3) (.bool (((zn : Int) + 1 + 1 + 1) % 3 == 0))) hb4
      clear hb4 hx2 hf2 hx3 hf3
      have hx4 := (SliceR.at10 S4.out k hlt 4 (by omega)).1
      have hf4 := (SliceR.at10 S4.out k hlt 4 (by omega)).2
      generalize (updR (updR (updR (updR fm k 0 (.string (markT (zn + 0)))) k 1 (.string (markT (zn + 1)))) k 2 (.string (markT (zn + 2)))) k 3 (.bool (((zn : Int) + 1 + 1 + 1) % 3 == 0))) k 4 = y4 at hx4
      have hx5 := (SliceR.at10 S4.out k hlt 5 (by omega)).1
      have hf5 := (SliceR.at10 S4.out k hlt 5 (by omega)).2
      generalize (updR (updR (updR (updR fm k 0 (.string (markT (zn + 0)))) k 1 (.string (markT (zn + 1)))) k 2 (.string (markT (zn + 2)))) k 3 (.bool (((zn : Int) + 1 + 1 + 1) % 3 == 0))) k 5 = y5 at hx5
      have hx6 := (SliceR.at10 S4.out k hlt 6 (by omega)).1
      have hf6 := (SliceR.at10 S4.out k hlt 6 (by omega)).2
      generalize (updR (updR (updR (updR fm k 0 (.string (markT (zn + 0)))) k 1 (.string (markT (zn + 1)))) k 2 (.string (markT (zn + 2)))) k 3 (.bool (((zn : Int) + 1 + 1 + 1) % 3 == 0))) k 6 = y6 at hx6
      go_wp2_with fail
      refine (HN7.out _).mono ?_
      rintro e u5 ⟨rfl, hb5⟩
      have S5 : Hid (SliceR u5 B 10 (.slice (some ⟨g, 0, none⟩) n cap) n (updR (updR (updR (updR (updR (updR (updR fm k 0 (.string (markT (zn + 0)))) k 1 (.string (markT (zn + 1)))) k 2 (.string (markT (zn + 2)))) k 3 (.bool (((zn : Int) + 1 + 1 + 1) % 3 == 0))) k 4 (.string (markT (zn + 4)))) k 5 (.bool (((zn : Int) + 1 + 1 + 1 + 1 + 1) % 3 == 0))) k 6 (.int .i64 ((zn : Int) + 1 + 1 + 1 + 1 + 1 + 1)))) := SliceR.below (SliceR.set (SliceR.set (SliceR.set (S4.out) k 4 hlt (by omega) (.string (markT (zn + 4)))) k 5 hlt (by omega) (.bool (((zn : Int) + 1 + 1 + 1 + 1 + 1) % 3 == 0))) k 6 hlt (by omega) (.int .i64 ((zn : Int) + 1 + 1 + 1 + 1 + 1 + 1))) hb5
      have G5 : Hid (w.grownBy u5 (some g)) := grownG_below (grownG_set (grownG_set (grownG_set (G4.out) (k * 10 + 4) (.string (markT (zn + 4)))) (k * 10 + 5) (.bool (((zn : Int) + 1 + 1 + 1 + 1 + 1) % 3 == 0))) (k * 10 + 6) (.int .i64 ((zn : Int) + 1 + 1 + 1 + 1 + 1 + 1))) hb5
      clear hb5 hx4 hf4 hx5 hf5 hx6 hf6
      have hx7 := (SliceR.at10 S5.out k hlt 7 (by omega)).1
      have hf7 := (SliceR.at10 S5.out k hlt 7 (by omega)).2
      generalize (updR (updR (updR (updR (updR (updR (updR fm k 0 (.string (markT (zn + 0)))) k 1 (.string (markT (zn + 1)))) k 2 (.string (markT (zn + 2)))) k 3 (.bool (((zn : Int) + 1 + 1 + 1) % 3 == 0))) k 4 (.string (markT (zn + 4)))) k 5 (.bool (((zn : Int) + 1 + 1 + 1 + 1 + 1) % 3 == 0))) k 6 (.int .i64 ((zn : Int) + 1 + 1 + 1 + 1 + 1 + 1))) k 7 = y7 at hx7
      have hx8 := (SliceR.at10 S5.out k hlt 8 (by omega)).1
      have hf8 := (SliceR.at10 S5.out k hlt 8 (by omega)).2
      generalize (updR (updR (updR (updR (updR (updR (updR fm k 0 (.string (markT (zn + 0)))) k 1 (.string (markT (zn + 1)))) k 2 (.string (markT (zn + 2)))) k 3 (.bool (((zn : Int) + 1 + 1 + 1) % 3 == 0))) k 4 (.string (markT (zn + 4)))) k 5 (.bool (((zn : Int) + 1 + 1 + 1 + 1 + 1) % 3 == 0))) k 6 (.int .i64 ((zn : Int) + 1 + 1 + 1 + 1 + 1 + 1))) k 8 = y8 at hx8
      have hx9 := (SliceR.at10 S5.out k hlt 9 (by omega)).1
      have hf9 := (SliceR.at10 S5.out k hlt 9 (by omega)).2
      generalize (updR (updR (updR (updR (updR (updR (updR fm k 0 (.string (markT (zn + 0)))) k 1 (.string (markT (zn + 1)))) k 2 (.string (markT (zn + 2)))) k 3 (.bool (((zn : Int) + 1 + 1 + 1) % 3 == 0))) k 4 (.string (markT (zn + 4)))) k 5 (.bool (((zn : Int) + 1 + 1 + 1 + 1 + 1) % 3 == 0))) k 6 (.int .i64 ((zn : Int) + 1 + 1 + 1 + 1 + 1 + 1))) k 9 = y9 at hx9
      go_wp2
      go_roundw
      case rel =>
        refine ⟨k + 1, by omega, by go_num, val_int (by have := HNX.out; omega), ?_, ?_⟩
        · refine HEnd.out _ (SliceR.congr (SliceR.set (SliceR.set (SliceR.set (S5.out) k 7 hlt (by omega) (.string (markT (zn + 7)))) k 8 hlt (by omega) (.int .i64 ((zn : Int) + 1 + 1 + 1 + 1 + 1 + 1 + 1 + 1))) k 9 hlt (by omega) (.int .i64 ((zn : Int) + 1 + 1 + 1 + 1 + 1 + 1 + 1 + 1 + 1))) (fun j hj o ho => ?_))
          by_cases e : j = k
          · subst e
            rw [if_pos rfl]
            match o, ho with
            | 0, _ => simp [updR, markZ]
            | 1, _ => simp [updR, markZ]
            | 2, _ => simp [updR, markZ]
            | 3, _ => simp [updR, markZ]
            | 4, _ => simp [updR, markZ]
            | 5, _ => simp [updR, markZ]
            | 6, _ => simp [updR, markZ]
            | 7, _ => simp [updR, markZ]
            | 8, _ => simp [updR, markZ]
            | 9, _ => simp [updR, markZ]
          · simp [updR, e]
        · intro G hG
          obtain rfl : g = G := Option.some.inj (hG (by omega))
          exact grownG_set (grownG_set (grownG_set (G5.out) (k * 10 + 7) (.string (markT (zn + 7)))) (k * 10 + 8) (.int .i64 ((zn : Int) + 1 + 1 + 1 + 1 + 1 + 1 + 1 + 1))) (k * 10 + 9) (.int .i64 ((zn : Int) + 1 + 1 + 1 + 1 + 1 + 1 + 1 + 1 + 1))
      case measure => simp [intOf]; omega
    · obtain rfl : k = n := by omega
      have HS : Hid (SliceR wr B 10 (.slice p k cap) k (markCkC q)) := SliceR.congr HR.out (fun j hj o ho => by unfold markedC; rw [if_pos hj])
      go_wp2
      go_ret
      exact ⟨rfl, HS.out, HB.out⟩
end Go.Proofs.YtimmoclemcnhnaaDoor

/- Slices of structs while others are marked. -/
namespace Go.Proofs.YtimmoclemcnhnaaDoor
open Go.RowKit

theorem SliceR.place {w : World} {B sz n : Nat} {v : Value} {f : Nat → Nat → Value} (h : SliceR w B sz v n f) : 0 < n → ∃ g, v.ownBlock = some g ∧ B ≤ g ∧ g < w.heap.size := by
  obtain ⟨p, cap, rfl, h⟩ := h
  intro hn
  obtain ⟨g, rfl, hB, hg, -⟩ := h hn
  exact ⟨g, rfl, hB, hg⟩
theorem SliceR.keepG {w w' : World} {B sz n G : Nat} {v : Value} {f : Nat → Nat → Value} (h : SliceR w B sz v n f) (hg : w.grownBy w' (some G)) (hne : 0 < n → ∃ g, v.ownBlock = some g ∧ g ≠ G) : SliceR w' B sz v n f := by
  obtain ⟨p, cap, rfl, h⟩ := h
  refine ⟨p, cap, rfl, fun hn => ?_⟩
  obtain ⟨g, rfl, hB, hgw, hc⟩ := h hn
  obtain ⟨g', e, hn'⟩ := hne hn
  obtain rfl : g = g' := Option.some.inj e
  have hb : w'.heap[g]? = w.heap[g]? := hg.block g hgw (fun e => hn' (Option.some.inj e))
  refine ⟨g, rfl, hB, Nat.lt_of_lt_of_le hgw hg.size, fun j hj o ho => ⟨?_, ?_⟩⟩
  · rw [World.cell?_of_block (a := ⟨g, j * sz + o, none⟩) hb]; exact (hc j hj o ho).1
  · rw [World.frozen?_of_block (a := ⟨g, j * sz + o, none⟩) hb]; exact (hc j hj o ho).2
end Go.Proofs.YtimmoclemcnhnaaDoor

/- Slices of cookies while others are marked. -/
namespace Go.Proofs.YtimmoclemcnhnaaDoor
open Go.RowKit

theorem SliceC.keepG {w w' : World} {B G : Nat} {v : Value} {L : List Ck} (h : SliceC w B v L) (hg : w.grownBy w' (some G)) (hne : 0 < L.length → ∃ g, v.ownBlock = some g ∧ g ≠ G) : SliceC w' B v L := ⟨h.1.keepG hg hne, h.2⟩
theorem markC_call (a : Value) (L : List Ck) (B : Nat) (w : World) (ha : SliceC w B a L) (hB : B ≤ w.heap.size) (hn : L.length ≤ 1048576) :
    Calls Tryd.prog 31 #[a, .int .i64 1] w fun e w' => e = .returned (.int .i64 ((1 + L.length * 10 : Nat) : Int)) ∧ SliceR w' B 10 a L.length (markCkC 1) ∧ ∃ G, B ≤ G ∧ (0 < L.length → a.ownBlock = some G) ∧ (¬ 0 < L.length → w.heap.size ≤ G) ∧ w.grownBy w' (some G) := by
  refine (markCookieS_any a L.length B 1 _ w ha.1 hn (by decide) (by decide)).mono ?_
  rintro e w' ⟨rfl, h2, h3⟩
  refine ⟨rfl, h2, ?_⟩
  by_cases h0 : 0 < L.length
  · obtain ⟨g, e, hBg, -⟩ := ha.1.place h0
    exact ⟨g, hBg, fun _ => e, fun h => absurd h0 h, h3 g (fun _ => e)⟩
  · exact ⟨w.heap.size, hB, fun h => absurd h h0, fun _ => Nat.le_refl _, h3 _ (fun h => absurd h h0)⟩
end Go.Proofs.YtimmoclemcnhnaaDoor

/- The law FnExactJarFor, walked. Written by lawjarfor.py. -/
namespace Go.Proofs.YtimmoclemcnhnaaDoor
open Go.RowKit

theorem pairC_text6 (L : List (ByteArray × ByteArray)) : ∀ j, j < L.length → ∀ o, o < 2 → pairC (atP L) j o = .string (if o = 0 then (atP L j).1 else (atP L j).2) := by
  intro j _ o _
  unfold pairC; split <;> rfl
theorem markP_call (a : Value) (L : List (ByteArray × ByteArray)) (B : Nat) (w : World) (ha : SliceP w B a L) (hB : B ≤ w.heap.size) (hn : L.length ≤ 1048576) :
    Calls Tryd.prog 32 #[a, .int .i64 1] w fun e w' => e = .returned (.int .i64 ((1 + L.length * 2 : Nat) : Int)) ∧ SliceR w' B 2 a L.length (markPairC 1) ∧ ∃ G, B ≤ G ∧ (0 < L.length → a.ownBlock = some G) ∧ (¬ 0 < L.length → w.heap.size ≤ G) ∧ w.grownBy w' (some G) := by
  refine (markPairS_any a L.length B 1 _ w ha hn (by decide) (by decide)).mono ?_
  rintro e w' ⟨rfl, h2, h3⟩
  refine ⟨rfl, h2, ?_⟩
  by_cases h0 : 0 < L.length
  · obtain ⟨g, e, hBg, -⟩ := SliceR.place ha h0
    exact ⟨g, hBg, fun _ => e, fun h => absurd h0 h, h3 g (fun _ => e)⟩
  · exact ⟨w.heap.size, hB, fun h => absurd h h0, fun _ => Nat.le_refl _, h3 _ (fun h => absurd h h0)⟩
set_option maxRecDepth 10000 in
set_option maxHeartbeats 16000000 in
theorem lawJarFor_any (a : Option Addr) (cap : Nat) (L : List Ck) (sc uh up : ByteArray) (po : Int) (part : ByteArray) (wide near : Bool) (now : Int) (w : World) (hG : MaxI w) (hr : CkRow w a L) (hn : L.length ≤ maxLen) (m1 : sc.size ≤ maxLen) (m2 : uh.size ≤ maxLen) (m3 : up.size ≤ maxLen) :
    Calls Tryd.prog 4 #[.slice a L.length cap, .agg #[.string sc, .string uh, .int .i64 po, .string up], .string part, .bool wide, .bool near, .int .i64 now] w fun e w' => e = .returned (.bool true) ∧ Below w.heap.size w w' := by
  have HR : Hid (CkRow w a L) := hr
  have HG : Hid (MaxI w) := hG
  have KU : Hid (∀ W, Calls Tryd.prog 27 #[.agg #[.string sc, .string uh, .int .i64 po, .string up]] W fun e w' => e = .returned (.agg #[.string sc, .string uh, .int .i64 po, .string up]) ∧ Below W.heap.size W w') := fun W => toUrl_any sc uh up po W
  have Z1 : Hid (∀ (l : Int) (W : World), 0 ≤ l → l ≤ 1048576 → Calls Tryd.prog 24 #[.agg #[.string sc, .string uh, .int .i64 po, .string up], .int .i64 l] W fun e w' => (∃ r : Int, e = .returned (.int .i64 r) ∧ (r < 0 ∨ (0 ≤ r ∧ r ≤ 1048576 ∧ sc.size + uh.size + up.size ≤ 1048576))) ∧ Below W.heap.size W w') := fun l W a b => szUrl_at sc uh up po l W m1 m2 m3 a b
  clear hr hG m1 m2 m3
  by_cases hp : 1048576 < part.size
  · go_enter Tryd.func4, Tryd.ntmps4
    go_wp2
    go_ret
    exact ⟨rfl, (Below.refl _ _).alloc (Nat.le_refl _) _⟩
  have bp : part.size ≤ 1048576 := by omega
  obtain ⟨wu, hW⟩ : ∃ W0, W0 = w.alloc (.cells #[.string sc, .string uh, .int .i64 po, .string up] 38) := ⟨_, rfl⟩
  have hW0 : Hid (wu = w.alloc (.cells #[.string sc, .string uh, .int .i64 po, .string up] 38)) := hW
  have Bwu : Hid (Below w.heap.size w wu) := by
    show Below _ _ _
    rw [hW]; exact (Below.refl _ _).alloc (Nat.le_refl _) _
  have uwu_0 : wu.cell? ⟨w.heap.size, 0, none⟩ = some (.string sc) := by rw [hW]; simp
  have uwu_1 : wu.cell? ⟨w.heap.size, 1, none⟩ = some (.string uh) := by rw [hW]; simp
  have uwu_2 : wu.cell? ⟨w.heap.size, 2, none⟩ = some (.int .i64 po) := by rw [hW]; simp
  have uwu_3 : wu.cell? ⟨w.heap.size, 3, none⟩ = some (.string up) := by rw [hW]; simp
  have zwu : w.heap.size < wu.heap.size := by rw [hW]; simp
  clear hW
  go_enter Tryd.func4, Tryd.ntmps4
  go_upto_region 1 with fail
  rw [← hW0.out]
  clear hW0
  go_wp2_with fail
  refine (szCookieS_any a cap L 1048576 _ (HR.out.below Bwu.out) hn (by decide) (by decide)).mono ?_
  rintro e w0 ⟨⟨r, rfl, hr⟩, hb0⟩
  have Bw0 : Hid (Below w.heap.size w w0) := Bwu.out.trans (hb0.mono Bwu.out.size)
  have uw0_0 := ((bcell hb0).1 _ _ zwu).trans uwu_0
  have uw0_1 := ((bcell hb0).1 _ _ zwu).trans uwu_1
  have uw0_2 := ((bcell hb0).1 _ _ zwu).trans uwu_2
  have uw0_3 := ((bcell hb0).1 _ _ zwu).trans uwu_3
  have zw0 : w.heap.size < w0.heap.size := Nat.lt_of_lt_of_le zwu hb0.size
  clear uwu_0 uwu_1 uwu_2 uwu_3
  clear hb0
  rcases hr with hr | ⟨r0, r1, hl, hf⟩
  · go_wp2
    go_ret
    exact ⟨rfl, Bw0.out⟩
  have q : decide (r < 0) = false := by rw [decide_eq_false_iff_not]; omega
  have HF : Hid (szJ L) := hf
  clear hf
  go_wp2_with fail
  refine (Z1.out r _ r0 r1).mono ?_
  rintro e w1 ⟨⟨s, rfl, hs⟩, hb1⟩
  have Bw1 : Hid (Below w.heap.size w w1) := Bw0.out.trans (hb1.mono Bw0.out.size)
  have uw1_0 := ((bcell hb1).1 _ _ zw0).trans uw0_0
  have uw1_1 := ((bcell hb1).1 _ _ zw0).trans uw0_1
  have uw1_2 := ((bcell hb1).1 _ _ zw0).trans uw0_2
  have uw1_3 := ((bcell hb1).1 _ _ zw0).trans uw0_3
  have zw1 : w.heap.size < w1.heap.size := Nat.lt_of_lt_of_le zw0 hb1.size
  clear uw0_0 uw0_1 uw0_2 uw0_3
  clear hb1 Z1 r0 r1
  rcases hs with hs | ⟨s0, s1, hs1⟩
  · go_wp2
    go_ret
    exact ⟨rfl, Bw1.out⟩
  have qs : decide (s < 0) = false := by rw [decide_eq_false_iff_not]; omega
  have hu : uh.size ≤ 1048576 := by omega
  clear hs1 s0 s1
  have KT : Hid (∀ W, Below w.heap.size w W → Calls Tryd.prog 26 #[.slice a L.length cap] W fun e w' => ∃ v, e = .returned v ∧ SliceC w' W.heap.size v L ∧ Below W.heap.size W w') := fun W hb => toCookieS_any a cap L W (HR.out.below hb) hl
  have KS : Hid (∀ (v : Value) (B : Nat) (W : World), SliceC W B v L → Calls Tryd.prog 25 #[v, .agg #[.string sc, .string uh, .int .i64 po, .string up], .string part, .bool wide, .bool near, .int .i64 now] W fun e w' => ∃ v', e = .returned v' ∧ SliceP w' W.heap.size v' (forZ L sc uh po up part wide near now) ∧ Below W.heap.size W w') := fun v B W s => specJarFor_any v L sc uh po up part wide near now B W s hl (fun i hi => by have := HF.out i hi; omega)
  have KI : Hid (∀ (v : Value) (B : Nat) (W : World), Below w.heap.size w W → SliceC W B v L → Calls Tryd.prog 28 #[v, .agg #[.string sc, .string uh, .int .i64 po, .string up], .string part, .bool wide, .bool near, .int .i64 now] W fun e w' => ∃ v', e = .returned v' ∧ SliceP w' W.heap.size v' (forZ L sc uh po up part wide near now) ∧ Below W.heap.size W w') := fun v B W a b => jarFor_any v L sc uh po up part wide near now B W (HG.out.on a) b hl (fun i hi => by have := HF.out i hi; omega) hu
  have hZ := forZ_len L sc uh po up part wide near now
  clear HG HF HR
  generalize forZ L sc uh po up part wide near now = Z at *
  have Bw1d : Hid (Below w.heap.size w w1.drew) := Bw1.out.drew
  go_upto_region 10 with fail
  refine wp_region_held_drew (S := (fun w' => w'.cell? ⟨w.heap.size, 0, none⟩ = some (.string sc) ∧ w'.cell? ⟨w.heap.size, 1, none⟩ = some (.string uh) ∧ w'.cell? ⟨w.heap.size, 2, none⟩ = some (.int .i64 po) ∧ w'.cell? ⟨w.heap.size, 3, none⟩ = some (.string up))) (by kernel_rfl) ?_ (fun hH0 => ?_)
  · (try dsimp only)
    go_keep
  refine wpAnyH_take (i := 0) (oi := { dst := some 34, op := Op.move (Operand.tmp 0), type := 36, pos := "exact.go:2400", after := #[], guard := none }) (v := ?va0) rfl (by kernel_rfl) (by kernel_rfl) (by kernel_rfl) (fun _ _ _ h => h) (Or.inl ⟨by rfl, ?hya0⟩) (by assumption) ?resta0
  case hya0 =>
    intro w hSw
    (try dsimp only at hSw)
    go_simp
    try with_reducible rfl
  try simp only [Act.put, List.setIfInBounds_toArray, List.set_cons_zero, List.set_cons_succ]
  refine wpAnyH_take (i := 2) (oi := { dst := some 36, op := Op.load 38 (Operand.tmp 7), type := 38, pos := "exact.go:2400", after := #[], guard := none }) (v := ?va2) rfl (by kernel_rfl) (by kernel_rfl) (by kernel_rfl) (fun _ _ _ h => h) (Or.inl ⟨by rfl, ?hya2⟩) (by assumption) ?resta2
  case hya2 =>
    intro w hSw
    (try dsimp only at hSw)
    go_simp
    try with_reducible rfl
  try simp only [Act.put, List.setIfInBounds_toArray, List.set_cons_zero, List.set_cons_succ]
  refine wpAnyH_take (i := 4) (oi := { dst := some 38, op := Op.move (Operand.tmp 2), type := 9, pos := "exact.go:2400", after := #[], guard := none }) (v := ?va4) rfl (by kernel_rfl) (by kernel_rfl) (by kernel_rfl) (fun _ _ _ h => h) (Or.inl ⟨by rfl, ?hya4⟩) (by assumption) ?resta4
  case hya4 =>
    intro w hSw
    (try dsimp only at hSw)
    go_simp
    try with_reducible rfl
  try simp only [Act.put, List.setIfInBounds_toArray, List.set_cons_zero, List.set_cons_succ]
  refine wpAnyH_take (i := 5) (oi := { dst := some 39, op := Op.move (Operand.tmp 3), type := 4, pos := "exact.go:2400", after := #[], guard := none }) (v := ?va5) rfl (by kernel_rfl) (by kernel_rfl) (by kernel_rfl) (fun _ _ _ h => h) (Or.inl ⟨by rfl, ?hya5⟩) (by assumption) ?resta5
  case hya5 =>
    intro w hSw
    (try dsimp only at hSw)
    go_simp
    try with_reducible rfl
  try simp only [Act.put, List.setIfInBounds_toArray, List.set_cons_zero, List.set_cons_succ]
  refine wpAnyH_take (i := 6) (oi := { dst := some 40, op := Op.move (Operand.tmp 4), type := 4, pos := "exact.go:2400", after := #[], guard := none }) (v := ?va6) rfl (by kernel_rfl) (by kernel_rfl) (by kernel_rfl) (fun _ _ _ h => h) (Or.inl ⟨by rfl, ?hya6⟩) (by assumption) ?resta6
  case hya6 =>
    intro w hSw
    (try dsimp only at hSw)
    go_simp
    try with_reducible rfl
  try simp only [Act.put, List.setIfInBounds_toArray, List.set_cons_zero, List.set_cons_succ]
  refine wpAnyH_take (i := 7) (oi := { dst := some 41, op := Op.move (Operand.tmp 5), type := 2, pos := "exact.go:2400", after := #[], guard := none }) (v := ?va7) rfl (by kernel_rfl) (by kernel_rfl) (by kernel_rfl) (fun _ _ _ h => h) (Or.inl ⟨by rfl, ?hya7⟩) (by assumption) ?resta7
  case hya7 =>
    intro w hSw
    (try dsimp only at hSw)
    go_simp
    try with_reducible rfl
  try simp only [Act.put, List.setIfInBounds_toArray, List.set_cons_zero, List.set_cons_succ]
  refine wpAnyH_ready (rs := [1]) (by kernel_rfl) (by simp) ?_
  refine AllReadyH.cons (o := { dst := some 35, op := Op.call { callee := Callee.value (Operand.func 26), args := #[Operand.tmp 34], argTypes := #[36] }, type := 43, pos := "exact.go:2400", after := #[{ on := 0, ground := Ground.data }], guard := none }) rfl (fun K hK => ?_) AllReadyH.nil
  go_simp
  (go_at_call 26; refine (KT.out _ Bw1d.out).mono ?_; rintro e w2 ⟨v2, rfl, s2, hb2'⟩; have hb2 : Below w1.heap.size w1 w2 := (Below.drew (Below.refl _ _)).trans hb2'; have Bw2 : Hid (Below w.heap.size w w2) := Bw1.out.trans (hb2.mono Bw1.out.size); have uw2_0 := ((bcell hb2).1 _ _ zw1).trans uw1_0; have uw2_1 := ((bcell hb2).1 _ _ zw1).trans uw1_1; have uw2_2 := ((bcell hb2).1 _ _ zw1).trans uw1_2; have uw2_3 := ((bcell hb2).1 _ _ zw1).trans uw1_3; have zw2 : w.heap.size < w2.heap.size := Nat.lt_of_lt_of_le zw1 hb2.size; clear uw1_0 uw1_1 uw1_2 uw1_3; have S2 : Hid (SliceC w2 w1.heap.size v2 L) := s2; clear s2 hb2 hb2')
  try (go_wp2_with fail)
  refine hK.out _ _ ?_ (fun hH1 => ?_)
  · (try dsimp only)
    first | go_keep | (refine ⟨?_, ?_, ?_, ?_⟩ <;> assumption)
  clear hK K hH0
  try simp only [Act.put, List.setIfInBounds_toArray, List.set_cons_zero, List.set_cons_succ]
  refine wpAnyH_ready (rs := [3]) (by kernel_rfl) (by simp) ?_
  refine AllReadyH.cons (o := { dst := some 37, op := Op.call { callee := Callee.value (Operand.func 27), args := #[Operand.tmp 36], argTypes := #[38] }, type := 45, pos := "exact.go:2400", after := #[{ on := 2, ground := Ground.data }, { on := 1, ground := Ground.chain }], guard := none }) rfl (fun K hK => ?_) AllReadyH.nil
  go_simp
  (go_at_call 27; refine (KU.out _).mono ?_; rintro e w3 ⟨rfl, hb3⟩; have Bw3 : Hid (Below w.heap.size w w3) := Bw2.out.trans (hb3.mono Bw2.out.size); have uw3_0 := ((bcell hb3).1 _ _ zw2).trans uw2_0; have uw3_1 := ((bcell hb3).1 _ _ zw2).trans uw2_1; have uw3_2 := ((bcell hb3).1 _ _ zw2).trans uw2_2; have uw3_3 := ((bcell hb3).1 _ _ zw2).trans uw2_3; have zw3 : w.heap.size < w3.heap.size := Nat.lt_of_lt_of_le zw2 hb3.size; clear uw2_0 uw2_1 uw2_2 uw2_3; have S3 : Hid (SliceC w3 w1.heap.size v2 L) := S2.out.below hb3; clear hb3 S2)
  try (go_wp2_with fail)
  refine hK.out _ _ ?_ (fun hH2 => ?_)
  · (try dsimp only)
    first | go_keep | (refine ⟨?_, ?_, ?_, ?_⟩ <;> assumption)
  clear hK K hH1
  try simp only [Act.put, List.setIfInBounds_toArray, List.set_cons_zero, List.set_cons_succ]
  refine wpAnyH_ready (rs := [8]) (by kernel_rfl) (by simp) ?_
  refine AllReadyH.cons (o := { dst := some 42, op := Op.call { callee := Callee.value (Operand.func 25), args := #[Operand.tmp 35, Operand.tmp 37, Operand.tmp 38, Operand.tmp 39, Operand.tmp 40, Operand.tmp 41], argTypes := #[43, 45, 9, 4, 4, 2] }, type := 41, pos := "exact.go:2400", after := #[{ on := 1, ground := Ground.data }, { on := 3, ground := Ground.data }, { on := 4, ground := Ground.data }, { on := 5, ground := Ground.data }, { on := 6, ground := Ground.data }, { on := 7, ground := Ground.data }, { on := 3, ground := Ground.chain }], guard := none }) rfl (fun K hK => ?_) AllReadyH.nil
  go_simp
  (go_at_call 25; refine (KS.out _ _ _ S3.out).mono ?_; rintro e w4 ⟨vs, rfl, s4, hb4⟩; have Bw4 : Hid (Below w.heap.size w w4) := Bw3.out.trans (hb4.mono Bw3.out.size); have uw4_0 := ((bcell hb4).1 _ _ zw3).trans uw3_0; have uw4_1 := ((bcell hb4).1 _ _ zw3).trans uw3_1; have uw4_2 := ((bcell hb4).1 _ _ zw3).trans uw3_2; have uw4_3 := ((bcell hb4).1 _ _ zw3).trans uw3_3; have zw4 : w.heap.size < w4.heap.size := Nat.lt_of_lt_of_le zw3 hb4.size; clear uw3_0 uw3_1 uw3_2 uw3_3; have SS : Hid (SliceP w4 w3.heap.size vs Z) := s4; have P2 : Hid (0 < Z.length → ∃ g, vs.ownBlock = some g ∧ w3.heap.size ≤ g ∧ g < w4.heap.size) := SliceR.place s4; clear s4 hb4 S3 KS)
  try (go_wp2_with fail)
  refine hK.out _ _ ?_ (fun hH3 => ?_)
  · (try dsimp only)
    first | go_keep | (refine ⟨?_, ?_, ?_, ?_⟩ <;> assumption)
  clear hK K hH2
  try simp only [Act.put, List.setIfInBounds_toArray, List.set_cons_zero, List.set_cons_succ]
  refine wpAnyH_take (i := 9) (oi := { dst := some 14, op := Op.assign (Operand.tmp 42), type := 41, pos := "exact.go:2400", after := #[{ on := 8, ground := Ground.data }, { on := 8, ground := Ground.chain }, { on := 0, ground := Ground.phase }, { on := 1, ground := Ground.phase }, { on := 2, ground := Ground.phase }, { on := 3, ground := Ground.phase }, { on := 4, ground := Ground.phase }, { on := 5, ground := Ground.phase }, { on := 6, ground := Ground.phase }, { on := 7, ground := Ground.phase }, { on := 8, ground := Ground.phase }], guard := none }) (v := ?va9) rfl (by kernel_rfl) (by kernel_rfl) (by kernel_rfl) (fun _ _ _ h => h) (Or.inl ⟨by rfl, ?hya9⟩) (by assumption) ?resta9
  case hya9 =>
    intro w hSw
    (try dsimp only at hSw)
    go_simp
    try with_reducible rfl
  try simp only [Act.put, List.setIfInBounds_toArray, List.set_cons_zero, List.set_cons_succ]
  refine wpAnyH_done (by kernel_rfl) ?_ _
  have Bw3s : Hid (w.heap.size < w4.heap.size) := zw4
  go_wp2_with fail
  refine (KT.out _ Bw4.out).mono ?_
  rintro e w5 ⟨vx, rfl, s5, hb5⟩
  have Bw5 : Hid (Below w.heap.size w w5) := Bw4.out.trans (hb5.mono Bw4.out.size)
  have uw5_0 := ((bcell hb5).1 _ _ zw4).trans uw4_0
  have uw5_1 := ((bcell hb5).1 _ _ zw4).trans uw4_1
  have uw5_2 := ((bcell hb5).1 _ _ zw4).trans uw4_2
  have uw5_3 := ((bcell hb5).1 _ _ zw4).trans uw4_3
  have zw5 : w.heap.size < w5.heap.size := Nat.lt_of_lt_of_le zw4 hb5.size
  clear uw4_0 uw4_1 uw4_2 uw4_3
  have SS_w5 : Hid (SliceR w5 w3.heap.size 2 vs Z.length (pairC (atP Z))) := SliceR.below SS.out hb5
  clear SS
  have SX : Hid (SliceC w5 w4.heap.size vx L) := s5
  have P3 : Hid (0 < L.length → ∃ g, vx.ownBlock = some g ∧ w4.heap.size ≤ g ∧ g < w5.heap.size) := s5.1.place
  have z45 : w4.heap.size ≤ w5.heap.size := hb5.size
  clear s5 hb5
  go_wp2_with fail
  refine (KU.out _).mono ?_
  rintro e w6 ⟨rfl, hb6⟩
  have Bw6 : Hid (Below w.heap.size w w6) := Bw5.out.trans (hb6.mono Bw5.out.size)
  have uw6_0 := ((bcell hb6).1 _ _ zw5).trans uw5_0
  have uw6_1 := ((bcell hb6).1 _ _ zw5).trans uw5_1
  have uw6_2 := ((bcell hb6).1 _ _ zw5).trans uw5_2
  have uw6_3 := ((bcell hb6).1 _ _ zw5).trans uw5_3
  have zw6 : w.heap.size < w6.heap.size := Nat.lt_of_lt_of_le zw5 hb6.size
  clear uw5_0 uw5_1 uw5_2 uw5_3
  have SS_w6 : Hid (SliceR w6 w3.heap.size 2 vs Z.length (pairC (atP Z))) := SliceR.below SS_w5.out hb6
  clear SS_w5
  have SX_w6 : Hid (SliceC w6 w4.heap.size vx L) := SX.out.below hb6
  clear SX
  have z56 : w5.heap.size ≤ w6.heap.size := hb6.size
  clear hb6
  go_wp2_with fail
  refine (KI.out _ _ _ Bw6.out SX_w6.out).mono ?_
  rintro e w7 ⟨vg, rfl, s7, hb7⟩
  have Bw7 : Hid (Below w.heap.size w w7) := Bw6.out.trans (hb7.mono Bw6.out.size)
  have uw7_0 := ((bcell hb7).1 _ _ zw6).trans uw6_0
  have uw7_1 := ((bcell hb7).1 _ _ zw6).trans uw6_1
  have uw7_2 := ((bcell hb7).1 _ _ zw6).trans uw6_2
  have uw7_3 := ((bcell hb7).1 _ _ zw6).trans uw6_3
  have zw7 : w.heap.size < w7.heap.size := Nat.lt_of_lt_of_le zw6 hb7.size
  clear uw6_0 uw6_1 uw6_2 uw6_3
  have SS_w7 : Hid (SliceR w7 w3.heap.size 2 vs Z.length (pairC (atP Z))) := SliceR.below SS_w6.out hb7
  clear SS_w6
  have SX_w7 : Hid (SliceC w7 w4.heap.size vx L) := SX_w6.out.below hb7
  clear SX_w6
  have SG : Hid (SliceR w7 w6.heap.size 2 vg Z.length (pairC (atP Z))) := s7
  have P4 : Hid (0 < Z.length → ∃ g, vg.ownBlock = some g ∧ w6.heap.size ≤ g ∧ g < w7.heap.size) := SliceR.place s7
  have z67 : w6.heap.size ≤ w7.heap.size := hb7.size
  clear s7 hb7
  go_wp2_with fail
  refine (eqPairS_any vg vs Z.length _ _ _ _ (pairC_text6 Z) _ SG.out SS_w7.out (by omega)).mono ?_
  rintro e w8 ⟨rfl, hbw8⟩
  have Bw8 : Hid (Below w.heap.size w w8) := Bw7.out.trans (hbw8.mono Bw7.out.size)
  have uw8_0 := ((bcell hbw8).1 _ _ zw7).trans uw7_0
  have uw8_1 := ((bcell hbw8).1 _ _ zw7).trans uw7_1
  have uw8_2 := ((bcell hbw8).1 _ _ zw7).trans uw7_2
  have uw8_3 := ((bcell hbw8).1 _ _ zw7).trans uw7_3
  have zw8 : w.heap.size < w8.heap.size := Nat.lt_of_lt_of_le zw7 hbw8.size
  clear uw7_0 uw7_1 uw7_2 uw7_3
  have SS_w8 : Hid (SliceR w8 w3.heap.size 2 vs Z.length (pairC (atP Z))) := SliceR.below SS_w7.out hbw8
  clear SS_w7
  have SX_w8 : Hid (SliceC w8 w4.heap.size vx L) := SX_w7.out.below hbw8
  clear SX_w7
  have SG_w8 : Hid (SliceR w8 w6.heap.size 2 vg Z.length (pairC (atP Z))) := SliceR.below SG.out hbw8
  clear SG
  have yw8 : w7.heap.size ≤ w8.heap.size := hbw8.size
  clear hbw8
  go_wp2_with fail
  refine (KT.out _ Bw8.out).mono ?_
  rintro e w9 ⟨v9, rfl, s9, hbw9⟩
  have Bw9 : Hid (Below w.heap.size w w9) := Bw8.out.trans (hbw9.mono Bw8.out.size)
  have S9 : Hid (SliceC w9 w8.heap.size v9 L) := s9
  clear s9
  have uw9_0 := ((bcell hbw9).1 _ _ zw8).trans uw8_0
  have uw9_1 := ((bcell hbw9).1 _ _ zw8).trans uw8_1
  have uw9_2 := ((bcell hbw9).1 _ _ zw8).trans uw8_2
  have uw9_3 := ((bcell hbw9).1 _ _ zw8).trans uw8_3
  have zw9 : w.heap.size < w9.heap.size := Nat.lt_of_lt_of_le zw8 hbw9.size
  clear uw8_0 uw8_1 uw8_2 uw8_3
  have SS_w9 : Hid (SliceR w9 w3.heap.size 2 vs Z.length (pairC (atP Z))) := SliceR.below SS_w8.out hbw9
  clear SS_w8
  have SX_w9 : Hid (SliceC w9 w4.heap.size vx L) := SX_w8.out.below hbw9
  clear SX_w8
  have SG_w9 : Hid (SliceR w9 w6.heap.size 2 vg Z.length (pairC (atP Z))) := SliceR.below SG_w8.out hbw9
  clear SG_w8
  have yw9 : w8.heap.size ≤ w9.heap.size := hbw9.size
  clear hbw9
  go_wp2_with fail
  refine (eqCookieS_any vx v9 L _ _ _ SX_w9.out S9.out hl).mono ?_
  rintro e w10 ⟨rfl, hbw10⟩
  have Bw10 : Hid (Below w.heap.size w w10) := Bw9.out.trans (hbw10.mono Bw9.out.size)
  clear S9
  have uw10_0 := ((bcell hbw10).1 _ _ zw9).trans uw9_0
  have uw10_1 := ((bcell hbw10).1 _ _ zw9).trans uw9_1
  have uw10_2 := ((bcell hbw10).1 _ _ zw9).trans uw9_2
  have uw10_3 := ((bcell hbw10).1 _ _ zw9).trans uw9_3
  have zw10 : w.heap.size < w10.heap.size := Nat.lt_of_lt_of_le zw9 hbw10.size
  clear uw9_0 uw9_1 uw9_2 uw9_3
  have SS_w10 : Hid (SliceR w10 w3.heap.size 2 vs Z.length (pairC (atP Z))) := SliceR.below SS_w9.out hbw10
  clear SS_w9
  have SX_w10 : Hid (SliceC w10 w4.heap.size vx L) := SX_w9.out.below hbw10
  clear SX_w9
  have SG_w10 : Hid (SliceR w10 w6.heap.size 2 vg Z.length (pairC (atP Z))) := SliceR.below SG_w9.out hbw10
  clear SG_w9
  have yw10 : w9.heap.size ≤ w10.heap.size := hbw10.size
  clear hbw10
  go_wp2_with fail
  refine (markC_call vx L w4.heap.size w10 SX_w10.out (by omega) hl).mono ?_
  rintro e w11 ⟨rfl, -, G, hG1, hG2, hG3, hg11⟩
  have hGu : w.heap.size ≠ G := by have h1 : w.heap.size < w4.heap.size := Bw3s.out; omega
  have SS_w11 : Hid (SliceR w11 w3.heap.size 2 vs Z.length (pairC (atP Z))) := SliceR.keepG SS_w10.out hg11 (fun h => by obtain ⟨g, e, h1, h2⟩ := P2.out h; exact ⟨g, e, by omega⟩)
  have SG_w11 : Hid (SliceR w11 w6.heap.size 2 vg Z.length (pairC (atP Z))) := SliceR.keepG SG_w10.out hg11 (fun h => by
    obtain ⟨g, e, h1, h2⟩ := P4.out h
    refine ⟨g, e, ?_⟩
    by_cases h0 : 0 < L.length
    · obtain ⟨g', e', h1', h2'⟩ := P3.out h0
      have e2 := hG2 h0
      rw [e'] at e2
      have := Option.some.inj e2
      omega
    · have := hG3 h0; omega)
  have uw11_0 := World.grownBy.cell hg11 (a := ⟨w.heap.size, 0, none⟩) uw10_0 (fun e => hGu (Option.some.inj e))
  have uw11_1 := World.grownBy.cell hg11 (a := ⟨w.heap.size, 1, none⟩) uw10_1 (fun e => hGu (Option.some.inj e))
  have uw11_2 := World.grownBy.cell hg11 (a := ⟨w.heap.size, 2, none⟩) uw10_2 (fun e => hGu (Option.some.inj e))
  have uw11_3 := World.grownBy.cell hg11 (a := ⟨w.heap.size, 3, none⟩) uw10_3 (fun e => hGu (Option.some.inj e))
  have zw11 : w.heap.size < w11.heap.size := Nat.lt_of_lt_of_le zw10 hg11.size
  have yw11 : w10.heap.size ≤ w11.heap.size := hg11.size
  have Bw11 : Hid (Below w.heap.size w w11) := Bw10.out.grown hg11 Bw10.out.size (fun j hj => by have := Option.some.inj hj; have h1 : w.heap.size < w4.heap.size := Bw3s.out; omega)
  clear hGu uw10_0 uw10_1 uw10_2 uw10_3
  have hm0 : decide ((((1 + L.length * 10 : Nat) : Int)) < 0) = false := by rw [decide_eq_false_iff_not]; omega
  clear hg11 hG1 hG2 hG3 P3 SS_w10 SX_w10 SG_w10
  generalize ((1 + L.length * 10 : Nat) : Int) = mL at *
  go_wp2_with fail
  refine (eqPairS_any vg vs Z.length _ _ _ _ (pairC_text6 Z) _ SG_w11.out SS_w11.out (by omega)).mono ?_
  rintro e w12 ⟨rfl, hbw12⟩
  have Bw12 : Hid (Below w.heap.size w w12) := Bw11.out.trans (hbw12.mono Bw11.out.size)
  have uw12_0 := ((bcell hbw12).1 _ _ zw11).trans uw11_0
  have uw12_1 := ((bcell hbw12).1 _ _ zw11).trans uw11_1
  have uw12_2 := ((bcell hbw12).1 _ _ zw11).trans uw11_2
  have uw12_3 := ((bcell hbw12).1 _ _ zw11).trans uw11_3
  have zw12 : w.heap.size < w12.heap.size := Nat.lt_of_lt_of_le zw11 hbw12.size
  clear uw11_0 uw11_1 uw11_2 uw11_3
  have SS_w12 : Hid (SliceR w12 w3.heap.size 2 vs Z.length (pairC (atP Z))) := SliceR.below SS_w11.out hbw12
  clear SS_w11
  have SG_w12 : Hid (SliceR w12 w6.heap.size 2 vg Z.length (pairC (atP Z))) := SliceR.below SG_w11.out hbw12
  clear SG_w11
  have yw12 : w11.heap.size ≤ w12.heap.size := hbw12.size
  clear hbw12
  go_wp2_with fail
  refine (markP_call vg Z w6.heap.size w12 SG_w12.out (by omega) (by omega)).mono ?_
  rintro e w13 ⟨rfl, s13, G, hG1, hG2, hG3, hg13⟩
  have hGu : w.heap.size ≠ G := by have h1 : w.heap.size < w4.heap.size := Bw3s.out; omega
  have SS_w13 : Hid (SliceR w13 w3.heap.size 2 vs Z.length (pairC (atP Z))) := SliceR.keepG SS_w12.out hg13 (fun h => by obtain ⟨g, e, h1, h2⟩ := P2.out h; exact ⟨g, e, by omega⟩)
  have uw13_0 := World.grownBy.cell hg13 (a := ⟨w.heap.size, 0, none⟩) uw12_0 (fun e => hGu (Option.some.inj e))
  have uw13_1 := World.grownBy.cell hg13 (a := ⟨w.heap.size, 1, none⟩) uw12_1 (fun e => hGu (Option.some.inj e))
  have uw13_2 := World.grownBy.cell hg13 (a := ⟨w.heap.size, 2, none⟩) uw12_2 (fun e => hGu (Option.some.inj e))
  have uw13_3 := World.grownBy.cell hg13 (a := ⟨w.heap.size, 3, none⟩) uw12_3 (fun e => hGu (Option.some.inj e))
  have zw13 : w.heap.size < w13.heap.size := Nat.lt_of_lt_of_le zw12 hg13.size
  have yw13 : w12.heap.size ≤ w13.heap.size := hg13.size
  have Bw13 : Hid (Below w.heap.size w w13) := Bw12.out.grown hg13 Bw12.out.size (fun j hj => by have := Option.some.inj hj; have h1 : w.heap.size < w4.heap.size := Bw3s.out; omega)
  clear hGu uw12_0 uw12_1 uw12_2 uw12_3
  have S13 : Hid (SliceR w13 w6.heap.size 2 vg Z.length (markPairC 1)) := s13
  have KH : Hid (∀ W, Below w13.heap.size w13 W → Calls Tryd.prog 33 #[vg, .int .i64 1] W fun e w' => e = .returned (.int .i64 ((1 + Z.length * 2 : Nat) : Int)) ∧ Below W.heap.size W w') := fun W hb => heldPairS_any vg Z.length _ 1 W (SliceR.below S13.out hb) (by omega) (by decide) (by decide)
  have hm1 : decide ((((1 + Z.length * 2 : Nat) : Int)) < 0) = false := by rw [decide_eq_false_iff_not]; omega
  clear hg13 hG1 hG2 hG3 s13 S13 P2 P4 SS_w12 SG_w12
  generalize ((1 + Z.length * 2 : Nat) : Int) = mZ at *
  go_wp2_with fail
  refine (KH.out _ (Below.refl _ _)).mono ?_
  rintro e w14 ⟨rfl, hbw14⟩
  have Bw14 : Hid (Below w.heap.size w w14) := Bw13.out.trans (hbw14.mono Bw13.out.size)
  have A14 : Hid (Below w13.heap.size w13 w14) := hbw14
  have uw14_0 := ((bcell hbw14).1 _ _ zw13).trans uw13_0
  have uw14_1 := ((bcell hbw14).1 _ _ zw13).trans uw13_1
  have uw14_2 := ((bcell hbw14).1 _ _ zw13).trans uw13_2
  have uw14_3 := ((bcell hbw14).1 _ _ zw13).trans uw13_3
  have zw14 : w.heap.size < w14.heap.size := Nat.lt_of_lt_of_le zw13 hbw14.size
  clear uw13_0 uw13_1 uw13_2 uw13_3
  have SS_w14 : Hid (SliceR w14 w3.heap.size 2 vs Z.length (pairC (atP Z))) := SliceR.below SS_w13.out hbw14
  clear SS_w13
  have yw14 : w13.heap.size ≤ w14.heap.size := hbw14.size
  clear hbw14
  have Bw14d : Hid (Below w.heap.size w w14.drew) := Bw14.out.drew
  have Aw14 : Hid (Below w13.heap.size w13 w14) := A14.out
  go_upto_region 29 with fail
  refine wp_region_held_drew (S := (fun w' => w'.cell? ⟨w.heap.size, 0, none⟩ = some (.string sc) ∧ w'.cell? ⟨w.heap.size, 1, none⟩ = some (.string uh) ∧ w'.cell? ⟨w.heap.size, 2, none⟩ = some (.int .i64 po) ∧ w'.cell? ⟨w.heap.size, 3, none⟩ = some (.string up))) (by kernel_rfl) ?_ (fun hH0 => ?_)
  · (try dsimp only)
    go_keep
  refine wpAnyH_take (i := 0) (oi := { dst := some 84, op := Op.move (Operand.tmp 0), type := 36, pos := "exact.go:2424", after := #[], guard := none }) (v := ?vb0) rfl (by kernel_rfl) (by kernel_rfl) (by kernel_rfl) (fun _ _ _ h => h) (Or.inl ⟨by rfl, ?hyb0⟩) (by assumption) ?restb0
  case hyb0 =>
    intro w hSw
    (try dsimp only at hSw)
    go_simp
    try with_reducible rfl
  try simp only [Act.put, List.setIfInBounds_toArray, List.set_cons_zero, List.set_cons_succ]
  refine wpAnyH_take (i := 2) (oi := { dst := some 86, op := Op.load 38 (Operand.tmp 7), type := 38, pos := "exact.go:2424", after := #[], guard := none }) (v := ?vb2) rfl (by kernel_rfl) (by kernel_rfl) (by kernel_rfl) (fun _ _ _ h => h) (Or.inl ⟨by rfl, ?hyb2⟩) (by assumption) ?restb2
  case hyb2 =>
    intro w hSw
    (try dsimp only at hSw)
    go_simp
    try with_reducible rfl
  try simp only [Act.put, List.setIfInBounds_toArray, List.set_cons_zero, List.set_cons_succ]
  refine wpAnyH_take (i := 4) (oi := { dst := some 88, op := Op.move (Operand.tmp 2), type := 9, pos := "exact.go:2424", after := #[], guard := none }) (v := ?vb4) rfl (by kernel_rfl) (by kernel_rfl) (by kernel_rfl) (fun _ _ _ h => h) (Or.inl ⟨by rfl, ?hyb4⟩) (by assumption) ?restb4
  case hyb4 =>
    intro w hSw
    (try dsimp only at hSw)
    go_simp
    try with_reducible rfl
  try simp only [Act.put, List.setIfInBounds_toArray, List.set_cons_zero, List.set_cons_succ]
  refine wpAnyH_take (i := 5) (oi := { dst := some 89, op := Op.move (Operand.tmp 3), type := 4, pos := "exact.go:2424", after := #[], guard := none }) (v := ?vb5) rfl (by kernel_rfl) (by kernel_rfl) (by kernel_rfl) (fun _ _ _ h => h) (Or.inl ⟨by rfl, ?hyb5⟩) (by assumption) ?restb5
  case hyb5 =>
    intro w hSw
    (try dsimp only at hSw)
    go_simp
    try with_reducible rfl
  try simp only [Act.put, List.setIfInBounds_toArray, List.set_cons_zero, List.set_cons_succ]
  refine wpAnyH_take (i := 6) (oi := { dst := some 90, op := Op.move (Operand.tmp 4), type := 4, pos := "exact.go:2424", after := #[], guard := none }) (v := ?vb6) rfl (by kernel_rfl) (by kernel_rfl) (by kernel_rfl) (fun _ _ _ h => h) (Or.inl ⟨by rfl, ?hyb6⟩) (by assumption) ?restb6
  case hyb6 =>
    intro w hSw
    (try dsimp only at hSw)
    go_simp
    try with_reducible rfl
  try simp only [Act.put, List.setIfInBounds_toArray, List.set_cons_zero, List.set_cons_succ]
  refine wpAnyH_take (i := 7) (oi := { dst := some 91, op := Op.move (Operand.tmp 5), type := 2, pos := "exact.go:2424", after := #[], guard := none }) (v := ?vb7) rfl (by kernel_rfl) (by kernel_rfl) (by kernel_rfl) (fun _ _ _ h => h) (Or.inl ⟨by rfl, ?hyb7⟩) (by assumption) ?restb7
  case hyb7 =>
    intro w hSw
    (try dsimp only at hSw)
    go_simp
    try with_reducible rfl
  try simp only [Act.put, List.setIfInBounds_toArray, List.set_cons_zero, List.set_cons_succ]
  refine wpAnyH_ready (rs := [1]) (by kernel_rfl) (by simp) ?_
  refine AllReadyH.cons (o := { dst := some 85, op := Op.call { callee := Callee.value (Operand.func 26), args := #[Operand.tmp 84], argTypes := #[36] }, type := 43, pos := "exact.go:2424", after := #[{ on := 0, ground := Ground.data }], guard := none }) rfl (fun K hK => ?_) AllReadyH.nil
  go_simp
  (go_at_call 26; refine (KT.out _ Bw14d.out).mono ?_; rintro e w15 ⟨v15, rfl, s15, hb15'⟩; have hb15 : Below w14.heap.size w14 w15 := (Below.drew (Below.refl _ _)).trans hb15'; have Bw15 : Hid (Below w.heap.size w w15) := Bw14.out.trans (hb15.mono Bw14.out.size); have uw15_0 := ((bcell hb15).1 _ _ zw14).trans uw14_0; have uw15_1 := ((bcell hb15).1 _ _ zw14).trans uw14_1; have uw15_2 := ((bcell hb15).1 _ _ zw14).trans uw14_2; have uw15_3 := ((bcell hb15).1 _ _ zw14).trans uw14_3; have zw15 : w.heap.size < w15.heap.size := Nat.lt_of_lt_of_le zw14 hb15.size; clear uw14_0 uw14_1 uw14_2 uw14_3; have SS_w15 : Hid (SliceR w15 w3.heap.size 2 vs Z.length (pairC (atP Z))) := SliceR.below SS_w14.out hb15; clear SS_w14; have Aw15 : Hid (Below w13.heap.size w13 w15) := Aw14.out.trans (hb15.mono Aw14.out.size); clear Aw14; have S15 : Hid (SliceC w15 w14.heap.size v15 L) := s15; clear s15 hb15 hb15')
  try (go_wp2_with fail)
  refine hK.out _ _ ?_ (fun hH1 => ?_)
  · (try dsimp only)
    first | go_keep | (refine ⟨?_, ?_, ?_, ?_⟩ <;> assumption)
  clear hK K hH0
  try simp only [Act.put, List.setIfInBounds_toArray, List.set_cons_zero, List.set_cons_succ]
  refine wpAnyH_ready (rs := [3]) (by kernel_rfl) (by simp) ?_
  refine AllReadyH.cons (o := { dst := some 87, op := Op.call { callee := Callee.value (Operand.func 27), args := #[Operand.tmp 86], argTypes := #[38] }, type := 45, pos := "exact.go:2424", after := #[{ on := 2, ground := Ground.data }, { on := 1, ground := Ground.chain }], guard := none }) rfl (fun K hK => ?_) AllReadyH.nil
  go_simp
  (go_at_call 27; refine (KU.out _).mono ?_; rintro e w16 ⟨rfl, hb16⟩; have Bw16 : Hid (Below w.heap.size w w16) := Bw15.out.trans (hb16.mono Bw15.out.size); have uw16_0 := ((bcell hb16).1 _ _ zw15).trans uw15_0; have uw16_1 := ((bcell hb16).1 _ _ zw15).trans uw15_1; have uw16_2 := ((bcell hb16).1 _ _ zw15).trans uw15_2; have uw16_3 := ((bcell hb16).1 _ _ zw15).trans uw15_3; have zw16 : w.heap.size < w16.heap.size := Nat.lt_of_lt_of_le zw15 hb16.size; clear uw15_0 uw15_1 uw15_2 uw15_3; have SS_w16 : Hid (SliceR w16 w3.heap.size 2 vs Z.length (pairC (atP Z))) := SliceR.below SS_w15.out hb16; clear SS_w15; have Aw16 : Hid (Below w13.heap.size w13 w16) := Aw15.out.trans (hb16.mono Aw15.out.size); clear Aw15; have S16 : Hid (SliceC w16 w14.heap.size v15 L) := S15.out.below hb16; clear hb16 S15)
  try (go_wp2_with fail)
  refine hK.out _ _ ?_ (fun hH2 => ?_)
  · (try dsimp only)
    first | go_keep | (refine ⟨?_, ?_, ?_, ?_⟩ <;> assumption)
  clear hK K hH1
  try simp only [Act.put, List.setIfInBounds_toArray, List.set_cons_zero, List.set_cons_succ]
  refine wpAnyH_ready (rs := [8]) (by kernel_rfl) (by simp) ?_
  refine AllReadyH.cons (o := { dst := some 92, op := Op.call { callee := Callee.value (Operand.func 28), args := #[Operand.tmp 85, Operand.tmp 87, Operand.tmp 88, Operand.tmp 89, Operand.tmp 90, Operand.tmp 91], argTypes := #[43, 45, 9, 4, 4, 2] }, type := 41, pos := "exact.go:2424", after := #[{ on := 1, ground := Ground.data }, { on := 3, ground := Ground.data }, { on := 4, ground := Ground.data }, { on := 5, ground := Ground.data }, { on := 6, ground := Ground.data }, { on := 7, ground := Ground.data }, { on := 3, ground := Ground.chain }], guard := none }) rfl (fun K hK => ?_) AllReadyH.nil
  go_simp
  (go_at_call 28; refine (KI.out _ _ _ Bw16.out S16.out).mono ?_; rintro e w17 ⟨vh, rfl, s17, hb17⟩; have Bw17 : Hid (Below w.heap.size w w17) := Bw16.out.trans (hb17.mono Bw16.out.size); have uw17_0 := ((bcell hb17).1 _ _ zw16).trans uw16_0; have uw17_1 := ((bcell hb17).1 _ _ zw16).trans uw16_1; have uw17_2 := ((bcell hb17).1 _ _ zw16).trans uw16_2; have uw17_3 := ((bcell hb17).1 _ _ zw16).trans uw16_3; have zw17 : w.heap.size < w17.heap.size := Nat.lt_of_lt_of_le zw16 hb17.size; clear uw16_0 uw16_1 uw16_2 uw16_3; have SS_w17 : Hid (SliceR w17 w3.heap.size 2 vs Z.length (pairC (atP Z))) := SliceR.below SS_w16.out hb17; clear SS_w16; have Aw17 : Hid (Below w13.heap.size w13 w17) := Aw16.out.trans (hb17.mono Aw16.out.size); clear Aw16; have SH : Hid (SliceR w17 w16.heap.size 2 vh Z.length (pairC (atP Z))) := s17; clear s17 hb17 S16 KI)
  try (go_wp2_with fail)
  refine hK.out _ _ ?_ (fun hH3 => ?_)
  · (try dsimp only)
    first | go_keep | (refine ⟨?_, ?_, ?_, ?_⟩ <;> assumption)
  clear hK K hH2
  try simp only [Act.put, List.setIfInBounds_toArray, List.set_cons_zero, List.set_cons_succ]
  refine wpAnyH_take (i := 9) (oi := { dst := some 20, op := Op.assign (Operand.tmp 92), type := 41, pos := "exact.go:2424", after := #[{ on := 8, ground := Ground.data }, { on := 8, ground := Ground.chain }, { on := 0, ground := Ground.phase }, { on := 1, ground := Ground.phase }, { on := 2, ground := Ground.phase }, { on := 3, ground := Ground.phase }, { on := 4, ground := Ground.phase }, { on := 5, ground := Ground.phase }, { on := 6, ground := Ground.phase }, { on := 7, ground := Ground.phase }, { on := 8, ground := Ground.phase }], guard := none }) (v := ?vb9) rfl (by kernel_rfl) (by kernel_rfl) (by kernel_rfl) (fun _ _ _ h => h) (Or.inl ⟨by rfl, ?hyb9⟩) (by assumption) ?restb9
  case hyb9 =>
    intro w hSw
    (try dsimp only at hSw)
    go_simp
    try with_reducible rfl
  try simp only [Act.put, List.setIfInBounds_toArray, List.set_cons_zero, List.set_cons_succ]
  refine wpAnyH_done (by kernel_rfl) ?_ _
  go_wp2_with fail
  refine (eqPairS_any vh vs Z.length _ _ _ _ (pairC_text6 Z) _ SH.out SS_w17.out (by omega)).mono ?_
  rintro e w18 ⟨rfl, hbw18⟩
  have Bw18 : Hid (Below w.heap.size w w18) := Bw17.out.trans (hbw18.mono Bw17.out.size)
  have Aw18 : Hid (Below w13.heap.size w13 w18) := Aw17.out.trans (hbw18.mono Aw17.out.size)
  clear Aw17
  clear hbw18
  go_wp2_with fail
  refine (KH.out _ Aw18.out).mono ?_
  rintro e w19 ⟨rfl, hb19⟩
  go_wp2
  go_ret
  exact ⟨rfl, Bw18.out.trans (hb19.mono Bw18.out.size)⟩
end Go.Proofs.YtimmoclemcnhnaaDoor

/- The lifting of a law's walk to a row that lists package-level variables, the world's shape kept; what the shape and the list give a walk. -/
namespace Go.Proofs.YtimmoclemcnhnaaDoor
open Go.RowKit

theorem Ld.own : ownKnob Tryd.prog.godebug = none := by kernel_rfl
theorem Ld.laidOut : laidOutB Tryd.prog = true := by kernel_rfl
set_option maxRecDepth 10000 in
theorem lift_laid {H : Type} {enc : TypeId × Value → H} {os : Os} {f : FuncId} {fn : Func} {s : ChangeSpec} {X : World → Prop} (hX : ∀ (w w' : World), w.heap = w'.heap → X w → X w')
    (started : os.Started) (noInit : Tryd.prog.inits.idxOf? f = none) (hfn : Tryd.prog.funcs[f]? = some fn)
    (start : ∃ (w : World) (tape : Tape) (i : Input), w.os = os ∧ (w.forCall tape i).Shaped Tryd.prog ∧ i.vars = [] ∧ Input.okWide Tryd.prog (w.forCall tape i) .any w.heap.size f i ∧
      ((s.pre enc Tryd.prog fn [] false (w.forCall tape i).memory i.args ∧ X (w.forCall tape i).memory) ∧ sizedMet enc Tryd.prog fn (OpenSpec.ofChange s) false (w.forCall tape i).memory i.args) ∧ Assume.holds {} Tryd.prog (lone (Frame.enter Tryd.prog f i.args .normal) [] (w.forCall tape i)))
    (walk : ∀ (W : World) (base : Nat) (args : Array Value) (ds gs : List (DataW H)) (before : List MemPlace),
      (∀ (j : Nat) t v, fn.params[j]? = some t → args[j]? = some v → Value.okWide Tryd.prog W .any base t v) →
      DataW.Whole enc Tryd.prog fn.params.toList s.vars false W args.toList ds gs before → X W → W.ShapedOpen Tryd.prog →
      Calls Tryd.prog f args W fun e W' => ∃ v, e = .returned v ∧ s.post enc Tryd.prog fn false true false false W args v W') :
    ReturnsInHanded {} Tryd.checked os f .any (fun w args => (s.pre enc Tryd.prog fn [] false w args ∧ X w) ∧ sizedMet enc Tryd.prog fn (OpenSpec.ofChange s) false w args) (s.post enc Tryd.prog fn false true false false) := by
  refine returnsInHanded_of_calls (C := Tryd.checked) Ld.own started noInit start ?_
  intro w tape i _ hsh _ hok hpre _
  obtain ⟨_, _, _, fn2, hfn2, _, _, _, _, hval⟩ := hok
  obtain rfl : fn2 = fn := Option.some.inj (hfn2.symm.trans hfn)
  obtain ⟨⟨⟨ds, gs, before, hw, _⟩, hx⟩, _⟩ := hpre
  have hw2 := DataW.Whole.of_heap (w' := w.forCall tape i) (by rfl) hw
  refine (walk (w.forCall tape i) w.heap.size i.args ds gs before hval hw2 (hX _ _ (by rfl) hx) hsh).mono fun e W' ⟨v, he, hp⟩ => ?_
  subst he
  exact ChangeSpec.post_blind hp
set_option maxRecDepth 10000 in
theorem maxI_of_shape {W : World} (h : W.ShapedOpen Tryd.prog) : MaxI W := Tryd.lays146.s1_3 W h
end Go.Proofs.YtimmoclemcnhnaaDoor
