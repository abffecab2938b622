/- The walk of the program's urlParts: what it answers are the parts of the text, if it is one of a right url. -/
import Derived.Test.YtknjkakokcblnaaDoorPartsAt
namespace Go.Proofs.YtknjkakokcblnaaDoor
open Go.RowKit

set_option maxRecDepth 10000 in
set_option maxHeartbeats 400000 in
theorem isDigit_any (c : Nat) (w : World) : Calls Tryd.prog 74 #[.int .u8 (c : Int)] w fun e w' => e = .returned (.bool (digC c)) ∧ w' = w := by
  rcases (show (c < 48) ∨ (48 ≤ c ∧ c ≤ 57) ∨ (57 < c) by omega) with c1 | ⟨c1, c2⟩ | c1
  · have b1 : decide ((48 : Int) ≤ (c : Int)) = false := by rw [decide_eq_false_iff_not]; omega
    go_enter Tryd.func74, Tryd.ntmps74
    go_wp2
    go_ret
    exact ⟨ret_bool (digC_no (by omega)).symm, rfl⟩
  · go_enter Tryd.func74, Tryd.ntmps74
    go_wp2
    go_ret
    exact ⟨ret_bool (by rw [digC_yes ⟨c1, c2⟩, decide_eq_true_iff]; omega), rfl⟩
  · have b1 : decide ((c : Int) ≤ 57) = false := by rw [decide_eq_false_iff_not]; omega
    go_enter Tryd.func74, Tryd.ntmps74
    go_wp2
    go_ret
    exact ⟨ret_bool (digC_no (by omega)).symm, rfl⟩
theorem wrap_form (x : Int) : ∃ k : Int, wrap64 x = x + k * 18446744073709551616 ∧ -9223372036854775808 ≤ wrap64 x ∧ wrap64 x ≤ 9223372036854775807 := by
  refine ⟨-((x + 9223372036854775808) / 18446744073709551616), ?_⟩
  unfold wrap64
  omega
theorem port_step (p q : Int) (N c : Nat) (hp : p = N + q * 18446744073709551616) (hc : 48 ≤ c) :
    ∃ k : Int, wrap64 (wrap64 (p * 10) + ((c : Int) - 48)) = ((10 * N + (c - 48) : Nat) : Int) + k * 18446744073709551616 ∧ -9223372036854775808 ≤ wrap64 (wrap64 (p * 10) + ((c : Int) - 48)) ∧ wrap64 (wrap64 (p * 10) + ((c : Int) - 48)) ≤ 9223372036854775807 := by
  obtain ⟨k1, e1, _, _⟩ := wrap_form (p * 10)
  obtain ⟨k2, e2, h1, h2⟩ := wrap_form (wrap64 (p * 10) + ((c : Int) - 48))
  refine ⟨10 * q + k1 + k2, ?_, h1, h2⟩
  rw [e2, e1, hp]
  omega
theorem take_more {t : ByteArray} {j n : Nat} (hn : n < t.size) (hj : j + 1 ≤ n) : (t.data.toList.drop (j + 1)).take (n + 1 - (j + 1)) = (t.data.toList.drop (j + 1)).take (n - (j + 1)) ++ [t[n]] := by
  have hl : n - (j + 1) < (t.data.toList.drop (j + 1)).length := by
    have e : t.data.toList.length = t.size := (Lib.size_eq t).symm
    rw [List.length_drop, e]; omega
  rw [show n + 1 - (j + 1) = n - (j + 1) + 1 by omega, List.take_add_one, List.getElem?_eq_getElem hl]
  congr 1
  rw [List.getElem_drop]
  simp only [show j + 1 + (n - (j + 1)) = n by omega, Option.toList_some]
  rw [byte_list hn]
theorem prefix_room {t : ByteArray} {k : Nat} (hk : k < t.size) (h : Lib.hasPrefix (t.extract k t.size).data.toList [58, 47, 47] = true) : k + 3 ≤ t.size := by
  unfold Lib.hasPrefix at h
  have h1 := (List.isPrefixOf_iff_prefix.1 h).length_le
  rw [← Lib.size_eq, ByteArray.size_extract] at h1
  simp at h1
  omega
theorem prefix_call (s : ByteArray) (w : World) : Calls Tryd.prog 73 #[.string s, .string ⟨#[58, 47, 47]⟩] w fun e w' => e = .returned (.bool (Lib.hasPrefix s.data.toList [58, 47, 47])) ∧ w' = w :=
  Any.strings_HasPrefix Tryd.lays99 s ⟨#[58, 47, 47]⟩ w

set_option maxRecDepth 10000 in
set_option maxHeartbeats 4000000 in
theorem urlParts_any (t : ByteArray) (w : World) (ht : t.size ≤ 8000) :
    Calls Tryd.prog 52 #[.string t] w fun e w' => ∃ sc ho pa po, e = .returned (urlV sc ho pa po) ∧ IsParts t sc ho po pa ∧ sc.size ≤ 8000 ∧ ho.size ≤ 8000 ∧ Below w.heap.size w w' := by
  go_enter Tryd.func52, Tryd.ntmps52
  go_wp2
  refine wp_scope5 rfl rfl rfl rfl rfl (JU t w) (fun l a w h => by match l, h with | 0, _ => simp | 1, _ => simp | 2, _ => simp | 3, _ => simp | 4, _ => simp) μU ?p0 ?p1 ?p2 ?p3 ?p4 ?first
  case first =>
    intro hr1
    go_wp2
    rename_i hK
    refine wp_label ?_
    refine hK _ _ (hr1 _ _ ?_)
    exact ⟨0, 0, _, _, _, _, _, _, _, _, _, _, _, _, _, _, _, _, _, _, _, _, _, _, _, _, _, _, _, _, _, _, _, _, _, _, _, _, _, _, _, _, _, _, _, _, _, _, _, _, _, _, _, _, _, _, _, _, _, _, _, _, _, _, _, _, _, _, _, _, _, _, _, _, _, _, _, _, _, _, _, _, _, _, _, _, rfl, rfl, by omega, UAt.made w _, fun i _ hi => absurd hi (by omega)⟩
  case p0 =>
    rintro a' w' ⟨sc, ho, pa, po, b, k, u6, u7, u8, u9, u10, u11, u12, u13, u14, u15, u16, u17, u18, u19, u20, u21, u22, u23, u24, u25, u26, u27, u28, u29, u30, u31, u32, u33, u34, u35, u36, u37, u38, u39, u40, u41, u42, u43, u44, u45, u46, u47, u48, u49, u50, u51, u52, u53, u54, u55, u56, u57, u58, u59, u60, u61, u62, u63, u64, u65, u66, u67, u68, u69, u70, u71, u72, u73, u74, u75, u76, u77, u78, u79, u80, u81, u82, u83, u84, u85, u86, u87, u88, u89, rfl, HU, HP⟩
    obtain ⟨hz, hB, -, -, ⟨r0, r1, r2, r3⟩, hg⟩ := HU.out
    have g0 := hg 0
    have g1 := hg 1
    have g2 := hg 2
    have g3 := hg 3
    have HB : Hid (Below w.heap.size w w') := hB
    clear hB hg HU
    go_wp2
    simp only [jumps]
    refine bodyPost_ret (v := urlV ⟨#[]⟩ ⟨#[]⟩ ⟨#[]⟩ 0) (by simp [urlV, results, Tryd.results52, go_sem, r0, r1, r2, r3]) rfl ⟨_, _, _, _, rfl, HP.out, by decide, by decide, ?_⟩
    exact Below.setCell (Below.setCell (Below.setCell (Below.setCell HB.out (by simp) _) (by simp) _) (by simp) _) (by simp) _
  case p1 =>
    rintro a' w' ⟨k, z, u6, u7, u8, u9, u10, u11, u12, u13, u14, u15, u16, u17, u18, u19, u20, u21, u22, u23, u24, u25, u26, u27, u28, u29, u30, u31, u32, u33, u34, u35, u36, u37, u38, u39, u40, u41, u42, u43, u44, u45, u46, u47, u48, u49, u50, u51, u52, u53, u54, u55, u56, u57, u58, u59, u60, u61, u62, u63, u64, u65, u66, u67, u68, u69, u70, u71, u72, u73, u74, u75, u76, u77, u78, u79, u80, u81, u82, u83, u84, u85, u86, u87, u88, u89, rfl, rfl, hk, HU, HN⟩ fall
    have FA : Hid _ := fall
    clear fall
    obtain ⟨hz, hB, ⟨c0, c1, c2, c3⟩, hf, -, -⟩ := HU.out
    have f0 := hf 0
    clear hB hf
    by_cases hend : t.size ≤ k
    · have hq : ((k : Int) == (t.size : Int)) = true := by rw [beq_iff_eq]; omega
      go_wp2
      go_step3
      refine ⟨⟨_, _, _, _, _, _, _, _, _, _, _, _, _, _, _, _, _, _, _, _, _, _, _, _, _, _, _, _, _, _, _, _, _, _, _, _, _, _, _, _, _, _, _, _, _, _, _, _, _, _, _, _, _, _, _, _, _, _, _, _, _, _, _, _, _, _, _, _, _, _, _, _, _, _, _, _, _, _, _, _, _, _, _, _, _, _, _, _, _, _, rfl, HU, ?_⟩, ?_⟩
      · exact parts_none (fun i h => HN.out i h (by omega)) _ _ _ _
      · simp [μU, intOf]; omega
    have hlt : k < t.size := by omega
    have hq : ((k : Int) == (t.size : Int)) = false := by rw [beq_eq_false_iff_ne]; omega
    by_cases h58 : t[k].toNat = 58
    · have q2 : ((t[k].toNat : Int) != 58) = false := by rw [bne_eq_false_iff_eq]; omega
      have HC : Hid (∀ h : k < t.size, colC t[k].toNat = true) := fun _ => by rw [h58]; rfl
      have HP0 := fun W => prefix_call (t.extract k t.size) W
      clear h58
      cases hp : Lib.hasPrefix (t.extract k t.size).data.toList [58, 47, 47] with
      | false =>
        rw [hp] at HP0
        have HP : Hid (∀ W, Calls Tryd.prog 73 #[.string (t.extract k t.size), .string ⟨#[58, 47, 47]⟩] W fun e w' => e = .returned (.bool false) ∧ w' = W) := HP0
        have HI : Hid (IsParts t ⟨#[]⟩ ⟨#[]⟩ 0 ⟨#[]⟩) := parts_nocut hlt HN.out (HC.out hlt) hp _ _ _ _
        clear HP0 hp
        go_wp2_with (go_at_call 73; refine (HP.out _).mono ?_; rintro e w2 ⟨rfl, rfl⟩)
        go_step3
        refine ⟨⟨_, _, _, _, _, _, _, _, _, _, _, _, _, _, _, _, _, _, _, _, _, _, _, _, _, _, _, _, _, _, _, _, _, _, _, _, _, _, _, _, _, _, _, _, _, _, _, _, _, _, _, _, _, _, _, _, _, _, _, _, _, _, _, _, _, _, _, _, _, _, _, _, _, _, _, _, _, _, _, _, _, _, _, _, _, _, _, _, _, _, rfl, HU, HI⟩, ?_⟩
        simp [μU, intOf]; omega
      | true =>
        rw [hp] at HP0
        have hk3 := prefix_room hlt hp
        have HP : Hid (∀ W, Calls Tryd.prog 73 #[.string (t.extract k t.size), .string ⟨#[58, 47, 47]⟩] W fun e w' => e = .returned (.bool true) ∧ w' = W) := HP0
        have HT : Hid (∀ W, Calls Tryd.prog 46 #[.string (t.extract 0 k), .string ⟨#[]⟩] W fun e w' => e = .returned (.string (t.extract 0 k)) ∧ Below W.heap.size W w') := fun W => together_empty _ W (by rw [ByteArray.size_extract]; omega)
        clear HP0 hp
        go_wp2_with (first | (go_at_call 73; refine (HP.out _).mono ?_; rintro e w2 ⟨rfl, rfl⟩) | (go_at_call 46; refine (HT.out _).mono ?_; rintro e w3 ⟨rfl, hb3⟩; have d0 : w3.cell? ⟨w.heap.size + 1, 0, none⟩ = some (.string ⟨#[]⟩) := ((bcell hb3).1 _ _ hz).trans c0; have e0 : w3.frozen? ⟨w.heap.size + 1, 0, none⟩ = false := ((bcell hb3).2 _ _ hz).trans f0))
        rename_i hK
        refine wp_label ?_
        refine hK _ _ (FA.out _ _ ?_ ?_)
        · exact ⟨k, k + 3, _, _, _, _, _, _, _, _, _, _, _, _, _, _, _, _, _, _, _, _, _, _, _, _, _, _, _, _, _, _, _, _, _, _, _, _, _, _, _, _, _, _, _, _, _, _, _, _, _, _, _, _, _, _, _, _, _, _, _, _, _, _, _, _, _, _, _, _, _, _, _, _, _, _, _, _, _, _, _, _, _, _, _, _, _, _, rfl, by omega, by omega, by omega, by omega, (HU.out.below hb3).set0 _, HN, HC, fun i _ h1 h2 => absurd h2 (by omega)⟩
        · simp [μU, intOf]; omega
    · have q2 : ((t[k].toNat : Int) != 58) = true := by rw [bne_iff_ne]; omega
      have HK : Hid (colC t[k].toNat = false) := by show (_ == _) = _; rw [beq_eq_false_iff_ne]; exact h58
      clear h58
      go_wp2
      go_step3
      refine ⟨⟨k + 1, _, _, _, _, _, _, _, _, _, _, _, _, _, _, _, _, _, _, _, _, _, _, _, _, _, _, _, _, _, _, _, _, _, _, _, _, _, _, _, _, _, _, _, _, _, _, _, _, _, _, _, _, _, _, _, _, _, _, _, _, _, _, _, _, _, _, _, _, _, _, _, _, _, _, _, _, _, _, _, _, _, _, _, _, _, rfl, by omega, by omega, HU, ?_⟩, ?_⟩
      · intro i h hi
        by_cases e : i = k
        · subst e; exact HK.out
        · exact HN.out i h (by omega)
      · simp [μU, intOf]; omega
  case p2 =>
    rintro a' w' ⟨k, j, y, z, u6, u7, u8, u9, u10, u11, u12, u13, u14, u15, u16, u17, u18, u19, u20, u21, u22, u23, u24, u25, u26, u27, u28, u29, u30, u31, u32, u33, u34, u35, u36, u37, u38, u39, u40, u41, u42, u43, u44, u45, u46, u47, u48, u49, u50, u51, u52, u53, u54, u55, u56, u57, u58, u59, u60, u61, u62, u63, u64, u65, u66, u67, u68, u69, u70, u71, u72, u73, u74, u75, u76, u77, u78, u79, u80, u81, u82, u83, u84, u85, u86, u87, u88, u89, rfl, rfl, rfl, hkj, hj, HU, HN, HC, HM⟩
    obtain ⟨hz, hB, ⟨c0, c1, c2, c3⟩, hf, -, -⟩ := HU.out
    have f1 := hf 1
    have f2 := hf 2
    clear hB hf
    by_cases hend : t.size ≤ j
    · have hq : ((j : Int) == (t.size : Int)) = true := by rw [beq_iff_eq]; omega
      go_wp2
      go_step3
      refine ⟨⟨_, _, _, _, _, _, _, _, _, _, _, _, _, _, _, _, _, _, _, _, _, _, _, _, _, _, _, _, _, _, _, _, _, _, _, _, _, _, _, _, _, _, _, _, _, _, _, _, _, _, _, _, _, _, _, _, _, _, _, _, _, _, _, _, _, _, _, _, _, _, _, _, _, _, _, _, _, _, _, _, _, _, _, _, _, _, _, _, _, _, rfl, HU, ?_⟩, ?_⟩
      · exact parts_nohost (k := k) (by omega) HN.out HC.out (fun i h h1 => HM.out i h h1 (by omega)) _ _ _ _
      · simp [μU, intOf]; omega
    have hlt : j < t.size := by omega
    have hq : ((j : Int) == (t.size : Int)) = false := by rw [beq_eq_false_iff_ne]; omega
    have HT : Hid (∀ W, Calls Tryd.prog 46 #[.string (t.extract (k + 3) j), .string ⟨#[]⟩] W fun e w' => e = .returned (.string (t.extract (k + 3) j)) ∧ Below W.heap.size W w') := fun W => together_empty _ W (by rw [ByteArray.size_extract]; omega)
    by_cases h58 : t[j].toNat = 58
    · have q2 : ((t[j].toNat : Int) != 58) = false := by rw [bne_eq_false_iff_eq]; omega
      have q3 : ((t[j].toNat : Int) == 58) = true := by rw [beq_iff_eq]; omega
      have HE : Hid (∀ h : j < t.size, t[j].toNat = 58) := fun _ => h58
      clear h58
      go_wp2_with (go_at_call 46; refine (HT.out _).mono ?_; rintro e w3 ⟨rfl, hb3⟩; have d0 : w3.cell? ⟨w.heap.size + 1, 1, none⟩ = some (.string ⟨#[]⟩) := ((bcell hb3).1 _ _ hz).trans c1; have e0 : w3.frozen? ⟨w.heap.size + 1, 1, none⟩ = false := ((bcell hb3).2 _ _ hz).trans f1)
      go_step3
      refine ⟨⟨k, j, j + 1, _, _, 0, 0, _, _, _, _, _, _, _, _, _, _, _, _, _, _, _, _, _, _, _, _, _, _, _, _, _, _, _, _, _, _, _, _, _, _, _, _, _, _, _, _, _, _, _, _, _, _, _, _, _, _, _, _, _, _, _, _, _, _, _, _, _, _, _, _, _, _, _, _, _, _, _, _, _, _, _, _, _, _, _, _, _, _, _, _, rfl, by omega, by omega, by omega, hkj, by omega, by omega, (HU.out.below hb3).set1 _, HN, HC, HM, HE, fun i _ h1 h2 => absurd h2 (by omega), ?_⟩, ?_⟩
      · show _ = _
        simp [numL]
      · simp [μU, intOf]; omega
    · have q2 : ((t[j].toNat : Int) != 58) = true := by rw [bne_iff_ne]; omega
      have q3 : ((t[j].toNat : Int) == 58) = false := by rw [beq_eq_false_iff_ne]; omega
      by_cases h47 : t[j].toNat = 47
      · have q4 : ((t[j].toNat : Int) != 47) = false := by rw [bne_eq_false_iff_eq]; omega
        have HI : Hid (IsParts t (t.extract 0 k) (t.extract (k + 3) j) (ownP (t.extract 0 k)) (t.extract j t.size)) := parts_plain hlt hkj HN.out HC.out HM.out h47
        have HO : Hid (∀ W, Calls Tryd.prog 72 #[.string (t.extract 0 k)] W fun e w' => e = .returned (.int .i64 (ownP (t.extract 0 k))) ∧ w' = W) := fun W => ownPort_any _ W
        have hs1 : (t.extract 0 k).size ≤ 8000 := by rw [ByteArray.size_extract]; omega
        have hs2 : (t.extract (k + 3) j).size ≤ 8000 := by rw [ByteArray.size_extract]; omega
        clear h58 h47
        generalize ownP (t.extract 0 k) = op at *
        go_wp2_with (first | (go_at_call 46; refine (HT.out _).mono ?_; rintro e w3 ⟨rfl, hb3⟩; have d0 : w3.cell? ⟨w.heap.size + 1, 1, none⟩ = some (.string ⟨#[]⟩) := ((bcell hb3).1 _ _ hz).trans c1; have e0 : w3.frozen? ⟨w.heap.size + 1, 1, none⟩ = false := ((bcell hb3).2 _ _ hz).trans f1; have d1 : w3.cell? ⟨w.heap.size + 1, 0, none⟩ = some (.string (t.extract 0 k)) := ((bcell hb3).1 _ _ hz).trans c0; have d2 : w3.cell? ⟨w.heap.size + 1, 2, none⟩ = some (.int .i64 0) := ((bcell hb3).1 _ _ hz).trans c2; have e2 : w3.frozen? ⟨w.heap.size + 1, 2, none⟩ = false := ((bcell hb3).2 _ _ hz).trans f2) | (go_at_call 72; refine (HO.out _).mono ?_; rintro e w4 ⟨rfl, rfl⟩))
        go_step3
        refine ⟨⟨j, _, _, op, _, _, _, _, _, _, _, _, _, _, _, _, _, _, _, _, _, _, _, _, _, _, _, _, _, _, _, _, _, _, _, _, _, _, _, _, _, _, _, _, _, _, _, _, _, _, _, _, _, _, _, _, _, _, _, _, _, _, _, _, _, _, _, _, _, _, _, _, _, _, _, _, _, _, _, _, _, _, _, _, _, _, _, _, _, _, rfl, by omega, by omega, hs1, hs2, ((HU.out.below hb3).set1 _).set2 _, HI⟩, ?_⟩
        simp [μU, intOf]; omega
      · have q4 : ((t[j].toNat : Int) != 47) = true := by rw [bne_iff_ne]; omega
        have HK : Hid (endC t[j].toNat = false) := by
          show (_ || _) = _
          rw [Bool.or_eq_false_iff, beq_eq_false_iff_ne, beq_eq_false_iff_ne]; exact ⟨h58, h47⟩
        clear h58 h47
        go_wp2
        go_step3
        refine ⟨⟨k, j + 1, _, _, _, _, _, _, _, _, _, _, _, _, _, _, _, _, _, _, _, _, _, _, _, _, _, _, _, _, _, _, _, _, _, _, _, _, _, _, _, _, _, _, _, _, _, _, _, _, _, _, _, _, _, _, _, _, _, _, _, _, _, _, _, _, _, _, _, _, _, _, _, _, _, _, _, _, _, _, _, _, _, _, _, _, _, _, rfl, by omega, by omega, by omega, by omega, HU, HN, HC, ?_⟩, ?_⟩
        · intro i h h1 hi
          by_cases e : i = j
          · subst e; exact HK.out
          · exact HM.out i h h1 (by omega)
        · simp [μU, intOf]; omega
  case p3 =>
    rintro a' w' ⟨k, j, n, y, z, p, q, u6, u7, u8, u9, u10, u11, u12, u13, u14, u15, u16, u17, u18, u19, u20, u21, u22, u23, u24, u25, u26, u27, u28, u29, u30, u31, u32, u33, u34, u35, u36, u37, u38, u39, u40, u41, u42, u43, u44, u45, u46, u47, u48, u49, u50, u51, u52, u53, u54, u55, u56, u57, u58, u59, u60, u61, u62, u63, u64, u65, u66, u67, u68, u69, u70, u71, u72, u73, u74, u75, u76, u77, u78, u79, u80, u81, u82, u83, u84, u85, u86, u87, u88, u89, rfl, rfl, hjn, hn, hkj, hp1, hp2, HU, HN, HC, HM, HE, HD, HP⟩ fall
    have FA : Hid _ := fall
    clear fall
    obtain ⟨hz, hB, ⟨c0, c1, c2, c3⟩, hf, -, -⟩ := HU.out
    have f2 := hf 2
    clear hB hf
    have hs1 : (t.extract 0 k).size ≤ 8000 := by rw [ByteArray.size_extract]; omega
    have hs2 : (t.extract (k + 3) j).size ≤ 8000 := by rw [ByteArray.size_extract]; omega
    by_cases hlt : n < t.size
    · have HG : Hid (∀ W, Calls Tryd.prog 74 #[.int .u8 (t[n].toNat : Int)] W fun e w' => e = .returned (.bool (digC t[n].toNat)) ∧ w' = W) := fun W => isDigit_any _ W
      cases hd : digC t[n].toNat with
      | true =>
        rw [hd] at HG
        have hdig := digC_of hd
        have HK : Hid (nodC t[n].toNat = false) := by show (!_) = _; rw [hd]; rfl
        clear hd
        go_wp2_with (go_at_call 74; refine (HG.out _).mono ?_; rintro e w2 ⟨rfl, rfl⟩)
        go_region
        go_wp2
        go_step3
        obtain ⟨q2, e1, l1, l2⟩ := port_step p q (numL ((t.data.toList.drop (j + 1)).take (n - (j + 1)))) t[n].toNat HP.out hdig.1
        refine ⟨⟨k, j, n + 1, _, _, _, q2, _, _, _, _, _, _, _, _, _, _, _, _, _, _, _, _, _, _, _, _, _, _, _, _, _, _, _, _, _, _, _, _, _, _, _, _, _, _, _, _, _, _, _, _, _, _, _, _, _, _, _, _, _, _, _, _, _, _, _, _, _, _, _, _, _, _, _, _, _, _, _, _, _, _, _, _, _, _, _, _, _, _, _, _, rfl, by omega, by omega, by omega, hkj, l1, l2, (HU.out.set2 _).drew, HN, HC, HM, HE, ?_, ?_⟩, ?_⟩
        · intro i h h1 hi
          by_cases e : i = n
          · subst e; exact HK.out
          · exact HD.out i h h1 (by omega)
        · show _ = _
          rw [e1, take_more hlt hjn, numL_snoc]
        · simp [μU, intOf]; omega
      | false =>
        rw [hd] at HG
        have HI : Hid (IsParts t (t.extract 0 k) (t.extract (k + 3) j) p (t.extract n t.size)) := parts_port (by omega) hkj HN.out HC.out HM.out (HE.out (by omega)) hjn hn HD.out (fun _ => by unfold nodC; rw [hd]; rfl) HP.out hp1 hp2
        clear hd
        go_wp2_with (go_at_call 74; refine (HG.out _).mono ?_; rintro e w2 ⟨rfl, rfl⟩)
        rename_i hK
        refine wp_label ?_
        refine hK _ _ (FA.out _ _ ?_ ?_)
        · exact ⟨n, _, _, p, _, _, _, _, _, _, _, _, _, _, _, _, _, _, _, _, _, _, _, _, _, _, _, _, _, _, _, _, _, _, _, _, _, _, _, _, _, _, _, _, _, _, _, _, _, _, _, _, _, _, _, _, _, _, _, _, _, _, _, _, _, _, _, _, _, _, _, _, _, _, _, _, _, _, _, _, _, _, _, _, _, _, _, _, _, _, rfl, rfl, hn, hs1, hs2, HU, HI⟩
        · simp [μU, intOf]; omega
    · have HI : Hid (IsParts t (t.extract 0 k) (t.extract (k + 3) j) p (t.extract n t.size)) := parts_port (by omega) hkj HN.out HC.out HM.out (HE.out (by omega)) hjn hn HD.out (fun h => absurd h hlt) HP.out hp1 hp2
      go_wp2
      rename_i hK
      refine wp_label ?_
      refine hK _ _ (FA.out _ _ ?_ ?_)
      · exact ⟨n, _, _, p, _, _, _, _, _, _, _, _, _, _, _, _, _, _, _, _, _, _, _, _, _, _, _, _, _, _, _, _, _, _, _, _, _, _, _, _, _, _, _, _, _, _, _, _, _, _, _, _, _, _, _, _, _, _, _, _, _, _, _, _, _, _, _, _, _, _, _, _, _, _, _, _, _, _, _, _, _, _, _, _, _, _, _, _, _, _, rfl, rfl, hn, hs1, hs2, HU, HI⟩
      · simp [μU, intOf]; omega
  case p4 =>
    rintro a' w' ⟨n, sc, ho, po, y, z, u6, u7, u8, u9, u10, u11, u12, u13, u14, u15, u16, u17, u18, u19, u20, u21, u22, u23, u24, u25, u26, u27, u28, u29, u30, u31, u32, u33, u34, u35, u36, u37, u38, u39, u40, u41, u42, u43, u44, u45, u46, u47, u48, u49, u50, u51, u52, u53, u54, u55, u56, u57, u58, u59, u60, u61, u62, u63, u64, u65, u66, u67, u68, u69, u70, u71, u72, u73, u74, u75, u76, u77, u78, u79, u80, u81, u82, u83, u84, u85, u86, u87, u88, u89, rfl, rfl, hn, hs1, hs2, HU, HI⟩
    have HT : Hid (∀ W, Calls Tryd.prog 46 #[.string (t.extract n t.size), .string ⟨#[]⟩] W fun e w' => e = .returned (.string (t.extract n t.size)) ∧ Below W.heap.size W w') := fun W => together_empty _ W (by rw [ByteArray.size_extract]; omega)
    have HX : Hid (t.extract n t.size = t.extract n t.size) := rfl
    go_wp2_with fail
    refine (HT.out _).mono ?_
    rintro e w3 ⟨rfl, hb3⟩
    have HU3 : Hid (UAt w w3 sc ho ⟨#[]⟩ po) := HU.out.below hb3
    obtain ⟨hz, hB, ⟨c0, c1, c2, c3⟩, hf, ⟨r0, r1, r2, r3⟩, hg⟩ := HU3.out
    have f3 := hf 3
    have g0 := hg 0
    have g1 := hg 1
    have g2 := hg 2
    have g3 := hg 3
    have HB : Hid (Below w.heap.size w w3) := hB
    clear hB hf hg HU hb3
    go_wp2
    simp only [jumps]
    refine bodyPost_ret (v := urlV sc ho (t.extract n t.size) po) (by simp [urlV, results, Tryd.results52, go_sem, r0, r1, r2, r3]) rfl ⟨_, _, _, _, rfl, HI.out, hs1, hs2, ?_⟩
    exact Below.setCell (Below.setCell (Below.setCell (Below.setCell (Below.setCell HB.out (by simp) _) (by simp) _) (by simp) _) (by simp) _) (by simp) _
end Go.Proofs.YtknjkakokcblnaaDoor
