/- 4 of this claim's texts, one behind the other. -/
import Derived.Test.YtaccgciopmclhaaGreatDoorPart2
import Derived.Test.YtaccgciopmclhaaGreatDoorPart14
import Derived.Laws.ResultCell
import Derived.WalkKit
import Derived.WalkSpells
import Derived.WalkLawsBesides
import Derived.Deep.RegionHeld3
import Derived.Deep.DeepCutAuto
import Derived.Test.YtaccgciopmclhaaGreatDoorPart4
import Derived.Test.YtaccgciopmclhaaGreatDoorPart9
import Derived.Test.YtaccgciopmclhaaGreatDoorShelf
import Derived.Sort.Grow
import Derived.Deep.Draws
/- The walk of the program's CookieRight. Written by cookie6.py. -/
namespace Go.Proofs.YtaccgciopmclhaaGreatDoor
open Go.RowKit

set_option maxRecDepth 10000 in
theorem isTime_any (n : Int) (w : World) :
    Calls Tryz.prog 43 #[.int .i64 n] w fun e w' => e = .returned (.bool (timeB n)) ∧ w' = w := by
  have HM : Hid (timeB n = (decide (0 ≤ n) && decide (n ≤ 1000000))) := rfl
  generalize timeB n = R at *
  by_cases h0 : 0 ≤ n
  · have q0 : decide ((0 : Int) ≤ n) = true := by rw [decide_eq_true_iff]; exact h0
    go_enter Tryz.func43, Tryz.ntmps43
    go_wp2
    go_ret
    exact ⟨ret_bool (by rw [HM.out, q0]; rfl), rfl⟩
  · have q0 : decide ((0 : Int) ≤ n) = false := by rw [decide_eq_false_iff_not]; exact h0
    go_enter Tryz.func43, Tryz.ntmps43
    go_wp2
    go_ret
    exact ⟨ret_bool (by rw [HM.out, q0]; rfl), rfl⟩
set_option maxRecDepth 10000 in
theorem partRight_any (t : ByteArray) (w : World) :
    Calls Tryz.prog 142 #[.string t] w fun e w' => e = .returned (.bool (partB t)) ∧ w' = w := by
  have HE : Hid (partB t = decide ((t.size : Int) ≤ 120)) := by show _ = _; unfold partB; rw [decide_eq_decide]; omega
  go_enter Tryz.func142, Tryz.ntmps142
  go_wp2
  go_ret
  exact ⟨ret_bool HE.out.symm, rfl⟩
set_option maxRecDepth 10000 in
set_option maxHeartbeats 4000000 in
theorem cookieRight_any (c : Ck) (w : World) (hG : MaxI w) (hho : c.ho.size ≤ 1048576) :
    Calls Tryz.prog 94 #[ckV c] w fun e w' => e = .returned (.bool (ckB c)) ∧ Below w.heap.size w w' := by
  obtain ⟨na, va, ho, al, pa, se, mo, pt, un, ma⟩ := c
  dsimp only at hho
  have K1 : Hid (∀ W, Calls Tryz.prog 138 #[.agg #[.string na, .string va]] W fun e w' => e = .returned (.bool (pairB na va)) ∧ Below W.heap.size W w') := fun W => pairRight_any na va W
  have K3 : Hid (∀ W, Below w.heap.size w W → Calls Tryz.prog 139 #[.string ho] W fun e w' => e = .returned (.bool (hostB ho)) ∧ Below W.heap.size W w') := fun W hb => hostRight_any ho W (hG.on hb) hho
  have K4 : Hid (∀ W, Calls Tryz.prog 140 #[.string pa] W fun e w' => e = .returned (.bool (pathB pa)) ∧ Below W.heap.size W w') := fun W => pathRight_any pa W
  have K5 : Hid (∀ W, Calls Tryz.prog 141 #[.int .i64 mo] W fun e w' => e = .returned (.bool (modeB mo)) ∧ w' = W) := fun W => modeRight_any mo W
  have K6 : Hid (∀ W, Calls Tryz.prog 142 #[.string pt] W fun e w' => e = .returned (.bool (partB pt)) ∧ w' = W) := fun W => partRight_any pt W
  have K7 : Hid (∀ W, Calls Tryz.prog 43 #[.int .i64 un] W fun e w' => e = .returned (.bool (timeB un)) ∧ w' = W) := fun W => isTime_any un W
  have K8 : Hid (∀ W, Calls Tryz.prog 43 #[.int .i64 ma] W fun e w' => e = .returned (.bool (timeB ma)) ∧ w' = W) := fun W => isTime_any ma W
  have HE : Hid (ckB ⟨na, va, ho, al, pa, se, mo, pt, un, ma⟩ = (pairB na va && hostB ho && pathB pa && modeB mo && partB pt && timeB un && timeB ma && safeB se mo pt)) := rfl
  clear hG hho
  unfold ckV
  dsimp only
  generalize ckB ⟨na, va, ho, al, pa, se, mo, pt, un, ma⟩ = R at *
  generalize pairB na va = b1 at *
  generalize hostB ho = b3 at *
  generalize pathB pa = b4 at *
  generalize modeB mo = b5 at *
  generalize partB pt = b6 at *
  generalize timeB un = b7 at *
  generalize timeB ma = b8 at *
  go_enter Tryz.func94, Tryz.ntmps94
  go_wp2_with fail
  refine (K1.out _).mono ?_
  rintro e w1 ⟨rfl, hb1⟩
  have hz_w1 : w.heap.size < w1.heap.size := by have := hb1.size; simp at this; omega
  have g2_w1 : w1.cell? ⟨w.heap.size, 2, none⟩ = some (.string ho) := by rw [(bcell hb1).1 _ _ (by simp)]; simp
  have g4_w1 : w1.cell? ⟨w.heap.size, 4, none⟩ = some (.string pa) := by rw [(bcell hb1).1 _ _ (by simp)]; simp
  have g5_w1 : w1.cell? ⟨w.heap.size, 5, none⟩ = some (.bool se) := by rw [(bcell hb1).1 _ _ (by simp)]; simp
  have g6_w1 : w1.cell? ⟨w.heap.size, 6, none⟩ = some (.int .i64 mo) := by rw [(bcell hb1).1 _ _ (by simp)]; simp
  have g7_w1 : w1.cell? ⟨w.heap.size, 7, none⟩ = some (.string pt) := by rw [(bcell hb1).1 _ _ (by simp)]; simp
  have g8_w1 : w1.cell? ⟨w.heap.size, 8, none⟩ = some (.int .i64 un) := by rw [(bcell hb1).1 _ _ (by simp)]; simp
  have g9_w1 : w1.cell? ⟨w.heap.size, 9, none⟩ = some (.int .i64 ma) := by rw [(bcell hb1).1 _ _ (by simp)]; simp
  have B_w1 : Hid (Below w.heap.size w w1) := ((Below.refl _ _).alloc (Nat.le_refl _) _).trans (hb1.mono (by simp))
  clear hb1
  cases b1 with
  | false =>
    go_wp2
    go_ret
    exact ⟨ret_bool (by rw [HE.out]; first | rfl | simp [*]), B_w1.out⟩
  | true =>
    go_wp2_with fail
    refine (K3.out _ B_w1.out).mono ?_
    rintro e w3 ⟨rfl, hb3⟩
    have g4_w3 : w3.cell? ⟨w.heap.size, 4, none⟩ = some (.string pa) := by rw [(bcell hb3).1 _ _ hz_w1]; exact g4_w1
    have g5_w3 : w3.cell? ⟨w.heap.size, 5, none⟩ = some (.bool se) := by rw [(bcell hb3).1 _ _ hz_w1]; exact g5_w1
    have g6_w3 : w3.cell? ⟨w.heap.size, 6, none⟩ = some (.int .i64 mo) := by rw [(bcell hb3).1 _ _ hz_w1]; exact g6_w1
    have g7_w3 : w3.cell? ⟨w.heap.size, 7, none⟩ = some (.string pt) := by rw [(bcell hb3).1 _ _ hz_w1]; exact g7_w1
    have g8_w3 : w3.cell? ⟨w.heap.size, 8, none⟩ = some (.int .i64 un) := by rw [(bcell hb3).1 _ _ hz_w1]; exact g8_w1
    have g9_w3 : w3.cell? ⟨w.heap.size, 9, none⟩ = some (.int .i64 ma) := by rw [(bcell hb3).1 _ _ hz_w1]; exact g9_w1
    have hz_w3 : w.heap.size < w3.heap.size := Nat.lt_of_lt_of_le hz_w1 hb3.size
    have B_w3 : Hid (Below w.heap.size w w3) := B_w1.out.trans (hb3.mono B_w1.out.size)
    clear hb3 g2_w1 g4_w1 g5_w1 g6_w1 g7_w1 g8_w1 g9_w1
    cases b3 with
    | false =>
      go_wp2
      go_ret
      exact ⟨ret_bool (by rw [HE.out]; first | rfl | simp [*]), B_w3.out⟩
    | true =>
      go_wp2_with fail
      refine (K4.out _).mono ?_
      rintro e w4 ⟨rfl, hb4⟩
      have g5_w4 : w4.cell? ⟨w.heap.size, 5, none⟩ = some (.bool se) := by rw [(bcell hb4).1 _ _ hz_w3]; exact g5_w3
      have g6_w4 : w4.cell? ⟨w.heap.size, 6, none⟩ = some (.int .i64 mo) := by rw [(bcell hb4).1 _ _ hz_w3]; exact g6_w3
      have g7_w4 : w4.cell? ⟨w.heap.size, 7, none⟩ = some (.string pt) := by rw [(bcell hb4).1 _ _ hz_w3]; exact g7_w3
      have g8_w4 : w4.cell? ⟨w.heap.size, 8, none⟩ = some (.int .i64 un) := by rw [(bcell hb4).1 _ _ hz_w3]; exact g8_w3
      have g9_w4 : w4.cell? ⟨w.heap.size, 9, none⟩ = some (.int .i64 ma) := by rw [(bcell hb4).1 _ _ hz_w3]; exact g9_w3
      have hz_w4 : w.heap.size < w4.heap.size := Nat.lt_of_lt_of_le hz_w3 hb4.size
      have B_w4 : Hid (Below w.heap.size w w4) := B_w3.out.trans (hb4.mono B_w3.out.size)
      clear hb4 g4_w3 g5_w3 g6_w3 g7_w3 g8_w3 g9_w3
      cases b4 with
      | false =>
        go_wp2
        go_ret
        exact ⟨ret_bool (by rw [HE.out]; first | rfl | simp [*]), B_w4.out⟩
      | true =>
        go_wp2_with fail
        refine (K5.out _).mono ?_
        rintro e _ ⟨rfl, rfl⟩
        cases b5 with
        | false =>
          go_wp2
          go_ret
          exact ⟨ret_bool (by rw [HE.out]; first | rfl | simp [*]), B_w4.out⟩
        | true =>
          go_wp2_with fail
          refine (K6.out _).mono ?_
          rintro e _ ⟨rfl, rfl⟩
          cases b6 with
          | false =>
            go_wp2
            go_ret
            exact ⟨ret_bool (by rw [HE.out]; first | rfl | simp [*]), B_w4.out⟩
          | true =>
            go_wp2_with fail
            refine (K7.out _).mono ?_
            rintro e _ ⟨rfl, rfl⟩
            cases b7 with
            | false =>
              go_wp2
              go_ret
              exact ⟨ret_bool (by rw [HE.out]; first | rfl | simp [*]), B_w4.out⟩
            | true =>
              go_wp2_with fail
              refine (K8.out _).mono ?_
              rintro e _ ⟨rfl, rfl⟩
              cases b8 with
              | false =>
                go_wp2
                go_ret
                exact ⟨ret_bool (by rw [HE.out]; first | rfl | simp [*]), B_w4.out⟩
              | true =>
                cases se with
                | true =>
                  go_wp2
                  go_ret
                  exact ⟨ret_bool (by rw [HE.out]; first | rfl | simp [*]), B_w4.out⟩
                | false =>
                  by_cases hm2 : mo = 2
                  · have qm : (mo != 2) = false := by rw [hm2]; rfl
                    have HS : Hid (safeB false mo pt = false) := by show _ = _; unfold safeB; rw [qm]; rfl
                    clear hm2
                    go_wp2
                    go_ret
                    exact ⟨ret_bool (by rw [HE.out]; first | rfl | (rw [HS.out]; rfl) | simp [*]), B_w4.out⟩
                  · have qm : (mo != 2) = true := by rw [bne_iff_ne]; exact hm2
                    have HS : Hid (safeB false mo pt = pt.toList.isEmpty) := by show _ = _; unfold safeB; rw [qm]; rfl
                    clear hm2
                    go_wp2
                    go_ret
                    exact ⟨ret_bool (by rw [HE.out]; first | rfl | (rw [HS.out]; rfl) | simp [*]), B_w4.out⟩
end Go.Proofs.YtaccgciopmclhaaGreatDoor

/- The walk of the program's JarRight. Written by impljar.py. -/
namespace Go.Proofs.YtaccgciopmclhaaGreatDoor
open Go.RowKit

theorem hasK_all {L : List Ck} {k : Nat} {a : Ck} (h : hasK L k a = false) : ∀ j, j < k → sameK (atC L j) a = false := by
  unfold hasK at h
  rw [Bool.not_eq_false', decide_eq_true_eq] at h
  exact h
theorem hasK_some {L : List Ck} {k : Nat} (h : hasK L k (atC L k) = true) : okJ L k = false := by
  cases e : okJ L k with
  | false => rfl
  | true =>
    have h2 := okJ_apart e
    unfold hasK at h
    rw [decide_eq_true h2] at h; cases h
set_option maxRecDepth 10000 in
set_option maxHeartbeats 8000000 in
theorem jarRight_any (v : Value) (L : List Ck) (B : Nat) (w : World) (hG : MaxI w) (hs : SliceC w B v L) (hn : L.length ≤ 1048576) (hz : ∀ i, i < L.length → (atC L i).ho.size ≤ 1048576) :
    Calls Tryz.prog 40 #[v] w fun e w' => e = .returned (.bool (jarB L)) ∧ Below w.heap.size w w' := by
  obtain ⟨⟨q, cap, rfl, hg⟩, p', cap', e', hcap⟩ := hs
  obtain rfl : cap = cap' := by injection e'
  by_cases h12 : 12 < L.length
  · have HQ : Hid (jarB L = false) := jarB_long h12
    have q0 : decide ((12 : Int) < (L.length : Int)) = true := by rw [decide_eq_true_iff]; omega
    go_enter Tryz.func40, Tryz.ntmps40
    go_wp2
    go_ret
    exact ⟨ret_bool HQ.out.symm, Below.refl _ _⟩
  have q0 : decide ((12 : Int) < (L.length : Int)) = false := by rw [decide_eq_false_iff_not]; omega
  have KX : Hid (∀ j, j < L.length → ∀ W, Below w.heap.size w W → Calls Tryz.prog 94 #[ckV (atC L j)] W fun e w' => e = .returned (.bool (ckB (atC L j))) ∧ Below W.heap.size W w') := fun j hj W hb => cookieRight_any _ W (hG.on hb) (hz j hj)
  have HN : Hid (∀ k, k < L.length → okJ L k = false → jarB L = false) := fun k a b => jarB_at k a b
  have HY : Hid ((∀ i, i < L.length → okJ L i = true) → jarB L = true) := fun h => by rw [jarB_all h, decide_eq_true (by omega)]
  have HG : Hid (0 < L.length → ∃ g, q = some ⟨g, 0, none⟩ ∧ g < w.heap.size ∧ ∀ j, j < L.length → ∀ o, o < 10 → w.cell? ⟨g, j * 10 + o, none⟩ = some (ckC (atC L j) o)) := fun h0 => by
    obtain ⟨g, e, -, hgw, hc⟩ := hg h0
    exact ⟨g, e, hgw, fun j hj o ho => (hc j hj o ho).1⟩
  have hmf : ∀ (fn : Fn) (first cap : Array Value) (w : World), (Instr.makeFunc fn first cap).run Tryz.prog w = .ok (.func fn first cap) w := fun _ _ _ _ => rfl
  clear hg hz hG e'
  generalize jarB L = R at *
  go_enter Tryz.func40, Tryz.ntmps40
  go_wp2
  go_loopw [10] (fun i wr => ∃ k : Nat, k ≤ L.length ∧ i = .int .i64 k ∧ Hid (Below w.heap.size w wr) ∧ Hid (∀ j, j < k → okJ L j = true)) (fun i _ => L.length - (intOf i).toNat)
  case atStart => exact ⟨0, Nat.zero_le _, rfl, Below.refl _ _, fun j hj => absurd hj (by omega)⟩
  case round =>
    obtain ⟨k, hk, rfl, HB, HR⟩ := hrel
    by_cases hlt : k < L.length
    · obtain ⟨g, rfl, hgw, hc⟩ := HG.out (by omega)
      have HC : Hid (∀ j, j < L.length → ∀ o, o < 10 → w.cell? ⟨g, j * 10 + o, none⟩ = some (ckC (atC L j) o)) := hc
      have hgr : g < wr.heap.size := Nat.lt_of_lt_of_le hgw HB.out.size
      have KC0 : ∀ W, Below wr.heap.size wr W → Calls Tryz.prog 94 #[ckV (atC L k)] W fun e w' => e = .returned (.bool (ckB (atC L k))) ∧ Below W.heap.size W w' := fun W hb => KX.out k hlt W (HB.out.trans (hb.mono HB.out.size))
      have k0 : (0 : Int) ≤ k := by omega
      have k1 : (k : Int) < L.length := by omega
      have kc : (k : Int) ≤ cap := by omega
      have HKN : Hid (ckB (atC L k) = false → R = false) := fun e => HN.out k hlt (okJ_no e)
      have HKY0 : Hid (ckB (atC L k) = true → (k = 0 ∨ (atC L (k - 1)).ma < (atC L k).ma) → hasK L k (atC L k) = false → okJ L k = true) := fun a b c => okJ_yes a b (hasK_all c)
      have HSN : Hid (hasK L k (atC L k) = true → R = false) := fun e => HN.out k hlt (hasK_some e)
      clear hc
      generalize hcb : ckB (atC L k) = cb at *
      clear hcb
      have d0 : wr.cell? ⟨g, k * 10, none⟩ = some (.string (atC L k).na) := by rw [(bcell HB.out).1 _ _ hgw]; exact HC.out k hlt 0 (by omega)
      have d1 : wr.cell? ⟨g, k * 10 + 1, none⟩ = some (.string (atC L k).va) := by rw [(bcell HB.out).1 _ _ hgw]; exact HC.out k hlt 1 (by omega)
      have d2 : wr.cell? ⟨g, k * 10 + 2, none⟩ = some (.string (atC L k).ho) := by rw [(bcell HB.out).1 _ _ hgw]; exact HC.out k hlt 2 (by omega)
      have d3 : wr.cell? ⟨g, k * 10 + 3, none⟩ = some (.bool (atC L k).al) := by rw [(bcell HB.out).1 _ _ hgw]; exact HC.out k hlt 3 (by omega)
      have d4 : wr.cell? ⟨g, k * 10 + 4, none⟩ = some (.string (atC L k).pa) := by rw [(bcell HB.out).1 _ _ hgw]; exact HC.out k hlt 4 (by omega)
      have d5 : wr.cell? ⟨g, k * 10 + 5, none⟩ = some (.bool (atC L k).se) := by rw [(bcell HB.out).1 _ _ hgw]; exact HC.out k hlt 5 (by omega)
      have d6 : wr.cell? ⟨g, k * 10 + 6, none⟩ = some (.int .i64 (atC L k).mo) := by rw [(bcell HB.out).1 _ _ hgw]; exact HC.out k hlt 6 (by omega)
      have d7 : wr.cell? ⟨g, k * 10 + 7, none⟩ = some (.string (atC L k).pt) := by rw [(bcell HB.out).1 _ _ hgw]; exact HC.out k hlt 7 (by omega)
      have d8 : wr.cell? ⟨g, k * 10 + 8, none⟩ = some (.int .i64 (atC L k).un) := by rw [(bcell HB.out).1 _ _ hgw]; exact HC.out k hlt 8 (by omega)
      have d9 : wr.cell? ⟨g, k * 10 + 9, none⟩ = some (.int .i64 (atC L k).ma) := by rw [(bcell HB.out).1 _ _ hgw]; exact HC.out k hlt 9 (by omega)
      cases cb with
      | false =>
        have HQ : Hid (R = false) := HKN.out rfl
        clear HKN HKY0 HSN
        generalize atC L k = y at *
        obtain ⟨na, va, ho, al, pa, se, mo, pt, un, ma⟩ := y
        unfold ckV at KC0
        dsimp only at *
        obtain ⟨W0, hW⟩ : ∃ W0, W0 = wr.alloc (.cells #[.string na, .string va, .string ho, .bool al, .string pa, .bool se, .int .i64 mo, .string pt, .int .i64 un, .int .i64 ma] 125) := ⟨_, rfl⟩
        have hW0 : Hid (W0 = wr.alloc (.cells #[.string na, .string va, .string ho, .bool al, .string pa, .bool se, .int .i64 mo, .string pt, .int .i64 un, .int .i64 ma] 125)) := hW
        have HBW : Hid (Below w.heap.size w W0) := by show Below _ _ _; rw [hW]; exact HB.out.alloc HB.out.size _
        have HBr : Hid (Below wr.heap.size wr W0) := by show Below _ _ _; rw [hW]; exact (Below.refl _ _).alloc (Nat.le_refl _) _
        have c0 : W0.cell? ⟨wr.heap.size, 0, none⟩ = some (.string na) := by rw [hW]; simp
        have c1 : W0.cell? ⟨wr.heap.size, 1, none⟩ = some (.string va) := by rw [hW]; simp
        have c2 : W0.cell? ⟨wr.heap.size, 2, none⟩ = some (.string ho) := by rw [hW]; simp
        have c3 : W0.cell? ⟨wr.heap.size, 3, none⟩ = some (.bool al) := by rw [hW]; simp
        have c4 : W0.cell? ⟨wr.heap.size, 4, none⟩ = some (.string pa) := by rw [hW]; simp
        have c5 : W0.cell? ⟨wr.heap.size, 5, none⟩ = some (.bool se) := by rw [hW]; simp
        have c6 : W0.cell? ⟨wr.heap.size, 6, none⟩ = some (.int .i64 mo) := by rw [hW]; simp
        have c7 : W0.cell? ⟨wr.heap.size, 7, none⟩ = some (.string pt) := by rw [hW]; simp
        have c8 : W0.cell? ⟨wr.heap.size, 8, none⟩ = some (.int .i64 un) := by rw [hW]; simp
        have c9 : W0.cell? ⟨wr.heap.size, 9, none⟩ = some (.int .i64 ma) := by rw [hW]; simp
        have hbW : wr.heap.size < W0.heap.size := by rw [hW]; simp
        have hgW : g < W0.heap.size := Nat.lt_trans hgr hbW
        clear hW
        have KC : Hid (∀ W, Below W0.heap.size W0 W → Calls Tryz.prog 94 #[.agg #[.string na, .string va, .string ho, .bool al, .string pa, .bool se, .int .i64 mo, .string pt, .int .i64 un, .int .i64 ma]] W fun e w' => e = .returned (.bool false) ∧ Below W.heap.size W w') := fun W hb => KC0 W (HBr.out.trans (hb.mono HBr.out.size))
        clear KC0
        go_wp2_with fail
        rw [← hW0.out]
        clear hW0
        generalize hbb : wr.heap.size = b at *
        clear hbb HBr HB d0 d1 d2 d3 d4 d5 d6 d7 d8 d9
        refine wp_region_held_drew (S := (fun w' => w'.cell? ⟨b, 0, none⟩ = some (.string na) ∧ w'.cell? ⟨b, 1, none⟩ = some (.string va) ∧ w'.cell? ⟨b, 2, none⟩ = some (.string ho) ∧ w'.cell? ⟨b, 3, none⟩ = some (.bool al) ∧ w'.cell? ⟨b, 4, none⟩ = some (.string pa) ∧ w'.cell? ⟨b, 5, none⟩ = some (.bool se) ∧ w'.cell? ⟨b, 6, none⟩ = some (.int .i64 mo) ∧ w'.cell? ⟨b, 7, none⟩ = some (.string pt) ∧ w'.cell? ⟨b, 8, none⟩ = some (.int .i64 un) ∧ w'.cell? ⟨b, 9, none⟩ = some (.int .i64 ma))) (by kernel_rfl) ?_ (fun hH0 => ?_)
        · (try dsimp only)
          go_keep
        refine wpAnyH_take (i := 0) (oi := { dst := some 15, op := Op.load 125 (Operand.tmp 4), type := 125, pos := "l06_jar.go:86", after := #[], guard := none }) (v := ?va0) rfl (by kernel_rfl) (by kernel_rfl) (by kernel_rfl) (fun _ _ _ h => h) (Or.inl ⟨by rfl, ?hya0⟩) (by assumption) ?resta0
        case hya0 =>
          intro w hSw
          (try dsimp only at hSw)
          go_simp
          try with_reducible rfl
        try simp only [Act.put, List.setIfInBounds_toArray, List.set_cons_zero, List.set_cons_succ]
        refine wpAnyH_ready (rs := [1]) (by kernel_rfl) (by simp) ?_
        refine AllReadyH.cons (o := { dst := some 16, op := Op.call { callee := Callee.value (Operand.func 94), args := #[Operand.tmp 15], argTypes := #[125] }, type := 4, pos := "l06_jar.go:86", after := #[{ on := 0, ground := Ground.data }], guard := none }) rfl (fun K hK => ?_) AllReadyH.nil
        go_simp
        (go_at_call 94; refine (KC.out _ (Below.drew (Below.refl _ _))).mono ?_; rintro e w2 ⟨rfl, hb2⟩; have x0 : w2.cell? ⟨b, 0, none⟩ = some (.string na) := ((bcell hb2).1 _ _ hbW).trans c0; have x1 : w2.cell? ⟨b, 1, none⟩ = some (.string va) := ((bcell hb2).1 _ _ hbW).trans c1; have x2 : w2.cell? ⟨b, 2, none⟩ = some (.string ho) := ((bcell hb2).1 _ _ hbW).trans c2; have x3 : w2.cell? ⟨b, 3, none⟩ = some (.bool al) := ((bcell hb2).1 _ _ hbW).trans c3; have x4 : w2.cell? ⟨b, 4, none⟩ = some (.string pa) := ((bcell hb2).1 _ _ hbW).trans c4; have x5 : w2.cell? ⟨b, 5, none⟩ = some (.bool se) := ((bcell hb2).1 _ _ hbW).trans c5; have x6 : w2.cell? ⟨b, 6, none⟩ = some (.int .i64 mo) := ((bcell hb2).1 _ _ hbW).trans c6; have x7 : w2.cell? ⟨b, 7, none⟩ = some (.string pt) := ((bcell hb2).1 _ _ hbW).trans c7; have x8 : w2.cell? ⟨b, 8, none⟩ = some (.int .i64 un) := ((bcell hb2).1 _ _ hbW).trans c8; have x9 : w2.cell? ⟨b, 9, none⟩ = some (.int .i64 ma) := ((bcell hb2).1 _ _ hbW).trans c9)
        try (go_wp2_with fail)
        refine hK.out _ _ ?_ (fun hH1 => ?_)
        · (try dsimp only)
          go_keep
        clear hK K hH0
        try simp only [Act.put, List.setIfInBounds_toArray, List.set_cons_zero, List.set_cons_succ]
        refine wpAnyH_take (i := 2) (oi := { dst := some 17, op := Op.unOp UnOp.not 4 (Operand.tmp 16), type := 4, pos := "l06_jar.go:86", after := #[{ on := 1, ground := Ground.data }], guard := none }) (v := ?va2) rfl (by kernel_rfl) (by kernel_rfl) (by kernel_rfl) (fun _ _ _ h => h) (Or.inl ⟨by rfl, ?hya2⟩) (by assumption) ?resta2
        case hya2 =>
          intro w hSw
          (try dsimp only at hSw)
          go_simp
          try with_reducible rfl
        try simp only [Act.put, List.setIfInBounds_toArray, List.set_cons_zero, List.set_cons_succ]
        refine wpAnyH_take (i := 3) (oi := { dst := some 18, op := Op.move (Operand.tmp 17), type := 4, pos := "l06_jar.go:86", after := #[{ on := 2, ground := Ground.data }, { on := 1, ground := Ground.chain }], guard := none }) (v := ?va3) rfl (by kernel_rfl) (by kernel_rfl) (by kernel_rfl) (fun _ _ _ h => h) (Or.inl ⟨by rfl, ?hya3⟩) (by assumption) ?resta3
        case hya3 =>
          intro w hSw
          (try dsimp only at hSw)
          go_simp
          try with_reducible rfl
        try simp only [Act.put, List.setIfInBounds_toArray, List.set_cons_zero, List.set_cons_succ]
        refine wpAnyH_take (i := 4) (oi := { dst := some 19, op := Op.move (Operand.tmp 3), type := 3, pos := "l06_jar.go:86", after := #[{ on := 3, ground := Ground.guard }], guard := some (3, false) }) (v := undef) rfl (by kernel_rfl) (by kernel_rfl) (by kernel_rfl) (fun _ _ _ h => h) (Or.inr ⟨by rfl, rfl⟩) (by assumption) ?_
        try simp only [Act.put, List.setIfInBounds_toArray, List.set_cons_zero, List.set_cons_succ]
        refine wpAnyH_take (i := 5) (oi := { dst := some 20, op := Op.binOp BinOp.gtr 3 (Operand.tmp 19) (Operand.const (Value.int IntKind.i64 0)) 3, type := 4, pos := "l06_jar.go:86", after := #[{ on := 4, ground := Ground.data }, { on := 3, ground := Ground.guard }], guard := some (3, false) }) (v := undef) rfl (by kernel_rfl) (by kernel_rfl) (by kernel_rfl) (fun _ _ _ h => h) (Or.inr ⟨by rfl, rfl⟩) (by assumption) ?_
        try simp only [Act.put, List.setIfInBounds_toArray, List.set_cons_zero, List.set_cons_succ]
        refine wpAnyH_take (i := 6) (oi := { dst := some 21, op := Op.move (Operand.tmp 20), type := 4, pos := "l06_jar.go:86", after := #[{ on := 5, ground := Ground.data }, { on := 3, ground := Ground.chain }, { on := 3, ground := Ground.guard }], guard := some (3, false) }) (v := undef) rfl (by kernel_rfl) (by kernel_rfl) (by kernel_rfl) (fun _ _ _ h => h) (Or.inr ⟨by rfl, rfl⟩) (by assumption) ?_
        try simp only [Act.put, List.setIfInBounds_toArray, List.set_cons_zero, List.set_cons_succ]
        refine wpAnyH_take (i := 7) (oi := { dst := some 22, op := Op.move (Operand.tmp 0), type := 34, pos := "l06_jar.go:86", after := #[{ on := 6, ground := Ground.guard }], guard := some (6, true) }) (v := undef) rfl (by kernel_rfl) (by kernel_rfl) (by kernel_rfl) (fun _ _ _ h => h) (Or.inr ⟨by rfl, rfl⟩) (by assumption) ?_
        try simp only [Act.put, List.setIfInBounds_toArray, List.set_cons_zero, List.set_cons_succ]
        refine wpAnyH_take (i := 8) (oi := { dst := some 23, op := Op.move (Operand.tmp 3), type := 3, pos := "l06_jar.go:86", after := #[{ on := 6, ground := Ground.guard }], guard := some (6, true) }) (v := undef) rfl (by kernel_rfl) (by kernel_rfl) (by kernel_rfl) (fun _ _ _ h => h) (Or.inr ⟨by rfl, rfl⟩) (by assumption) ?_
        try simp only [Act.put, List.setIfInBounds_toArray, List.set_cons_zero, List.set_cons_succ]
        refine wpAnyH_take (i := 9) (oi := { dst := some 24, op := Op.binOp BinOp.sub 3 (Operand.tmp 23) (Operand.const (Value.int IntKind.i64 1)) 3, type := 3, pos := "l06_jar.go:86", after := #[{ on := 8, ground := Ground.data }, { on := 6, ground := Ground.guard }], guard := some (6, true) }) (v := undef) rfl (by kernel_rfl) (by kernel_rfl) (by kernel_rfl) (fun _ _ _ h => h) (Or.inr ⟨by rfl, rfl⟩) (by assumption) ?_
        try simp only [Act.put, List.setIfInBounds_toArray, List.set_cons_zero, List.set_cons_succ]
        refine wpAnyH_take (i := 10) (oi := { dst := some 25, op := Op.indexAddr 34 (Operand.tmp 22) (Operand.tmp 24), type := 0, pos := "l06_jar.go:86", after := #[{ on := 7, ground := Ground.data }, { on := 9, ground := Ground.data }, { on := 6, ground := Ground.guard }], guard := some (6, true) }) (v := undef) rfl (by kernel_rfl) (by kernel_rfl) (by kernel_rfl) (fun _ _ _ h => h) (Or.inr ⟨by rfl, rfl⟩) (by assumption) ?_
        try simp only [Act.put, List.setIfInBounds_toArray, List.set_cons_zero, List.set_cons_succ]
        refine wpAnyH_take (i := 11) (oi := { dst := some 26, op := Op.fieldAddr 125 (Operand.tmp 25) 9, type := 0, pos := "l06_jar.go:86", after := #[{ on := 10, ground := Ground.data }, { on := 6, ground := Ground.guard }], guard := some (6, true) }) (v := undef) rfl (by kernel_rfl) (by kernel_rfl) (by kernel_rfl) (fun _ _ _ h => h) (Or.inr ⟨by rfl, rfl⟩) (by assumption) ?_
        try simp only [Act.put, List.setIfInBounds_toArray, List.set_cons_zero, List.set_cons_succ]
        refine wpAnyH_take (i := 12) (oi := { dst := some 27, op := Op.load 2 (Operand.tmp 26), type := 2, pos := "l06_jar.go:86", after := #[{ on := 11, ground := Ground.data }, { on := 6, ground := Ground.guard }], guard := some (6, true) }) (v := undef) rfl (by kernel_rfl) (by kernel_rfl) (by kernel_rfl) (fun _ _ _ h => h) (Or.inr ⟨by rfl, rfl⟩) (by assumption) ?_
        try simp only [Act.put, List.setIfInBounds_toArray, List.set_cons_zero, List.set_cons_succ]
        refine wpAnyH_take (i := 13) (oi := { dst := some 28, op := Op.fieldAddr 125 (Operand.tmp 4) 9, type := 0, pos := "l06_jar.go:86", after := #[{ on := 6, ground := Ground.guard }], guard := some (6, true) }) (v := undef) rfl (by kernel_rfl) (by kernel_rfl) (by kernel_rfl) (fun _ _ _ h => h) (Or.inr ⟨by rfl, rfl⟩) (by assumption) ?_
        try simp only [Act.put, List.setIfInBounds_toArray, List.set_cons_zero, List.set_cons_succ]
        refine wpAnyH_take (i := 14) (oi := { dst := some 29, op := Op.load 2 (Operand.tmp 28), type := 2, pos := "l06_jar.go:86", after := #[{ on := 13, ground := Ground.data }, { on := 6, ground := Ground.guard }], guard := some (6, true) }) (v := undef) rfl (by kernel_rfl) (by kernel_rfl) (by kernel_rfl) (fun _ _ _ h => h) (Or.inr ⟨by rfl, rfl⟩) (by assumption) ?_
        try simp only [Act.put, List.setIfInBounds_toArray, List.set_cons_zero, List.set_cons_succ]
        refine wpAnyH_take (i := 15) (oi := { dst := some 30, op := Op.binOp BinOp.geq 2 (Operand.tmp 27) (Operand.tmp 29) 2, type := 4, pos := "l06_jar.go:86", after := #[{ on := 12, ground := Ground.data }, { on := 14, ground := Ground.data }, { on := 6, ground := Ground.guard }], guard := some (6, true) }) (v := undef) rfl (by kernel_rfl) (by kernel_rfl) (by kernel_rfl) (fun _ _ _ h => h) (Or.inr ⟨by rfl, rfl⟩) (by assumption) ?_
        try simp only [Act.put, List.setIfInBounds_toArray, List.set_cons_zero, List.set_cons_succ]
        refine wpAnyH_take (i := 16) (oi := { dst := some 31, op := Op.pick (Operand.tmp 21) (Operand.tmp 30) (Operand.const (Value.bool false)), type := 4, pos := "l06_jar.go:86", after := #[{ on := 6, ground := Ground.data }, { on := 15, ground := Ground.data }, { on := 3, ground := Ground.guard }], guard := some (3, false) }) (v := undef) rfl (by kernel_rfl) (by kernel_rfl) (by kernel_rfl) (fun _ _ _ h => h) (Or.inr ⟨by rfl, rfl⟩) (by assumption) ?_
        try simp only [Act.put, List.setIfInBounds_toArray, List.set_cons_zero, List.set_cons_succ]
        refine wpAnyH_take (i := 17) (oi := { dst := some 32, op := Op.pick (Operand.tmp 18) (Operand.const (Value.bool true)) (Operand.tmp 31), type := 4, pos := "l06_jar.go:86", after := #[{ on := 3, ground := Ground.data }, { on := 16, ground := Ground.data }], guard := none }) (v := ?va17) rfl (by kernel_rfl) (by kernel_rfl) (by kernel_rfl) (fun _ _ _ h => h) (Or.inl ⟨by rfl, ?hya17⟩) (by assumption) ?resta17
        case hya17 =>
          intro w hSw
          (try dsimp only at hSw)
          go_simp
          try with_reducible rfl
        try simp only [Act.put, List.setIfInBounds_toArray, List.set_cons_zero, List.set_cons_succ]
        refine wpAnyH_done (by kernel_rfl) ?_ _
        go_wp2
        go_ret
        exact ⟨ret_bool HQ.out.symm, (HBW.out.trans (Below.drew (Below.refl _ _))).trans (hb2.mono HBW.out.size)⟩
      | true =>
        have HKY1 := HKY0.out rfl
        clear HKN HKY0
        cases k with
        | zero =>
          have HKY : Hid (hasK L 0 (atC L 0) = false → okJ L 0 = true) := HKY1 (.inl rfl)
          clear HKY1
          rw [Nat.zero_mul] at d0 d1 d2 d3 d4 d5 d6 d7 d8 d9
          rw [Nat.zero_add] at d1
          rw [Nat.zero_add] at d2
          rw [Nat.zero_add] at d3
          rw [Nat.zero_add] at d4
          rw [Nat.zero_add] at d5
          rw [Nat.zero_add] at d6
          rw [Nat.zero_add] at d7
          rw [Nat.zero_add] at d8
          rw [Nat.zero_add] at d9
          generalize atC L 0 = y at *
          obtain ⟨na, va, ho, al, pa, se, mo, pt, un, ma⟩ := y
          unfold ckV at KC0
          dsimp only at *
          obtain ⟨W0, hW⟩ : ∃ W0, W0 = wr.alloc (.cells #[.string na, .string va, .string ho, .bool al, .string pa, .bool se, .int .i64 mo, .string pt, .int .i64 un, .int .i64 ma] 125) := ⟨_, rfl⟩
          have hW0 : Hid (W0 = wr.alloc (.cells #[.string na, .string va, .string ho, .bool al, .string pa, .bool se, .int .i64 mo, .string pt, .int .i64 un, .int .i64 ma] 125)) := hW
          have HBW : Hid (Below w.heap.size w W0) := by show Below _ _ _; rw [hW]; exact HB.out.alloc HB.out.size _
          have HBr : Hid (Below wr.heap.size wr W0) := by show Below _ _ _; rw [hW]; exact (Below.refl _ _).alloc (Nat.le_refl _) _
          have c0 : W0.cell? ⟨wr.heap.size, 0, none⟩ = some (.string na) := by rw [hW]; simp
          have c1 : W0.cell? ⟨wr.heap.size, 1, none⟩ = some (.string va) := by rw [hW]; simp
          have c2 : W0.cell? ⟨wr.heap.size, 2, none⟩ = some (.string ho) := by rw [hW]; simp
          have c3 : W0.cell? ⟨wr.heap.size, 3, none⟩ = some (.bool al) := by rw [hW]; simp
          have c4 : W0.cell? ⟨wr.heap.size, 4, none⟩ = some (.string pa) := by rw [hW]; simp
          have c5 : W0.cell? ⟨wr.heap.size, 5, none⟩ = some (.bool se) := by rw [hW]; simp
          have c6 : W0.cell? ⟨wr.heap.size, 6, none⟩ = some (.int .i64 mo) := by rw [hW]; simp
          have c7 : W0.cell? ⟨wr.heap.size, 7, none⟩ = some (.string pt) := by rw [hW]; simp
          have c8 : W0.cell? ⟨wr.heap.size, 8, none⟩ = some (.int .i64 un) := by rw [hW]; simp
          have c9 : W0.cell? ⟨wr.heap.size, 9, none⟩ = some (.int .i64 ma) := by rw [hW]; simp
          have hbW : wr.heap.size < W0.heap.size := by rw [hW]; simp
          have hgW : g < W0.heap.size := Nat.lt_trans hgr hbW
          clear hW
          have KC : Hid (∀ W, Below W0.heap.size W0 W → Calls Tryz.prog 94 #[.agg #[.string na, .string va, .string ho, .bool al, .string pa, .bool se, .int .i64 mo, .string pt, .int .i64 un, .int .i64 ma]] W fun e w' => e = .returned (.bool true) ∧ Below W.heap.size W w') := fun W hb => KC0 W (HBr.out.trans (hb.mono HBr.out.size))
          clear KC0
          have q2 : decide ((0 : Int) < ((0 : Nat) : Int)) = false := by decide
          go_wp2_with fail
          rw [← hW0.out]
          clear hW0
          generalize hbb : wr.heap.size = b at *
          clear hbb HBr HB d0 d1 d2 d3 d4 d5 d6 d7 d8 d9
          refine wp_region_held_drew (S := (fun w' => w'.cell? ⟨b, 0, none⟩ = some (.string na) ∧ w'.cell? ⟨b, 1, none⟩ = some (.string va) ∧ w'.cell? ⟨b, 2, none⟩ = some (.string ho) ∧ w'.cell? ⟨b, 3, none⟩ = some (.bool al) ∧ w'.cell? ⟨b, 4, none⟩ = some (.string pa) ∧ w'.cell? ⟨b, 5, none⟩ = some (.bool se) ∧ w'.cell? ⟨b, 6, none⟩ = some (.int .i64 mo) ∧ w'.cell? ⟨b, 7, none⟩ = some (.string pt) ∧ w'.cell? ⟨b, 8, none⟩ = some (.int .i64 un) ∧ w'.cell? ⟨b, 9, none⟩ = some (.int .i64 ma))) (by kernel_rfl) ?_ (fun hH0 => ?_)
          · (try dsimp only)
            go_keep
          refine wpAnyH_take (i := 0) (oi := { dst := some 15, op := Op.load 125 (Operand.tmp 4), type := 125, pos := "l06_jar.go:86", after := #[], guard := none }) (v := ?vb0) rfl (by kernel_rfl) (by kernel_rfl) (by kernel_rfl) (fun _ _ _ h => h) (Or.inl ⟨by rfl, ?hyb0⟩) (by assumption) ?restb0
          case hyb0 =>
            intro w hSw
            (try dsimp only at hSw)
            go_simp
            try with_reducible rfl
          try simp only [Act.put, List.setIfInBounds_toArray, List.set_cons_zero, List.set_cons_succ]
          refine wpAnyH_ready (rs := [1]) (by kernel_rfl) (by simp) ?_
          refine AllReadyH.cons (o := { dst := some 16, op := Op.call { callee := Callee.value (Operand.func 94), args := #[Operand.tmp 15], argTypes := #[125] }, type := 4, pos := "l06_jar.go:86", after := #[{ on := 0, ground := Ground.data }], guard := none }) rfl (fun K hK => ?_) AllReadyH.nil
          go_simp
          (go_at_call 94; refine (KC.out _ (Below.drew (Below.refl _ _))).mono ?_; rintro e w2 ⟨rfl, hb2⟩; have x0 : w2.cell? ⟨b, 0, none⟩ = some (.string na) := ((bcell hb2).1 _ _ hbW).trans c0; have x1 : w2.cell? ⟨b, 1, none⟩ = some (.string va) := ((bcell hb2).1 _ _ hbW).trans c1; have x2 : w2.cell? ⟨b, 2, none⟩ = some (.string ho) := ((bcell hb2).1 _ _ hbW).trans c2; have x3 : w2.cell? ⟨b, 3, none⟩ = some (.bool al) := ((bcell hb2).1 _ _ hbW).trans c3; have x4 : w2.cell? ⟨b, 4, none⟩ = some (.string pa) := ((bcell hb2).1 _ _ hbW).trans c4; have x5 : w2.cell? ⟨b, 5, none⟩ = some (.bool se) := ((bcell hb2).1 _ _ hbW).trans c5; have x6 : w2.cell? ⟨b, 6, none⟩ = some (.int .i64 mo) := ((bcell hb2).1 _ _ hbW).trans c6; have x7 : w2.cell? ⟨b, 7, none⟩ = some (.string pt) := ((bcell hb2).1 _ _ hbW).trans c7; have x8 : w2.cell? ⟨b, 8, none⟩ = some (.int .i64 un) := ((bcell hb2).1 _ _ hbW).trans c8; have x9 : w2.cell? ⟨b, 9, none⟩ = some (.int .i64 ma) := ((bcell hb2).1 _ _ hbW).trans c9)
          try (go_wp2_with fail)
          refine hK.out _ _ ?_ (fun hH1 => ?_)
          · (try dsimp only)
            go_keep
          clear hK K hH0
          try simp only [Act.put, List.setIfInBounds_toArray, List.set_cons_zero, List.set_cons_succ]
          refine wpAnyH_take (i := 2) (oi := { dst := some 17, op := Op.unOp UnOp.not 4 (Operand.tmp 16), type := 4, pos := "l06_jar.go:86", after := #[{ on := 1, ground := Ground.data }], guard := none }) (v := ?vb2) rfl (by kernel_rfl) (by kernel_rfl) (by kernel_rfl) (fun _ _ _ h => h) (Or.inl ⟨by rfl, ?hyb2⟩) (by assumption) ?restb2
          case hyb2 =>
            intro w hSw
            (try dsimp only at hSw)
            go_simp
            try with_reducible rfl
          try simp only [Act.put, List.setIfInBounds_toArray, List.set_cons_zero, List.set_cons_succ]
          refine wpAnyH_take (i := 3) (oi := { dst := some 18, op := Op.move (Operand.tmp 17), type := 4, pos := "l06_jar.go:86", after := #[{ on := 2, ground := Ground.data }, { on := 1, ground := Ground.chain }], guard := none }) (v := ?vb3) rfl (by kernel_rfl) (by kernel_rfl) (by kernel_rfl) (fun _ _ _ h => h) (Or.inl ⟨by rfl, ?hyb3⟩) (by assumption) ?restb3
          case hyb3 =>
            intro w hSw
            (try dsimp only at hSw)
            go_simp
            try with_reducible rfl
          try simp only [Act.put, List.setIfInBounds_toArray, List.set_cons_zero, List.set_cons_succ]
          refine wpAnyH_take (i := 4) (oi := { dst := some 19, op := Op.move (Operand.tmp 3), type := 3, pos := "l06_jar.go:86", after := #[{ on := 3, ground := Ground.guard }], guard := some (3, false) }) (v := ?vb4) rfl (by kernel_rfl) (by kernel_rfl) (by kernel_rfl) (fun _ _ _ h => h) (Or.inl ⟨by rfl, ?hyb4⟩) (by assumption) ?restb4
          case hyb4 =>
            intro w hSw
            (try dsimp only at hSw)
            go_simp
            try with_reducible rfl
          try simp only [Act.put, List.setIfInBounds_toArray, List.set_cons_zero, List.set_cons_succ]
          refine wpAnyH_take (i := 5) (oi := { dst := some 20, op := Op.binOp BinOp.gtr 3 (Operand.tmp 19) (Operand.const (Value.int IntKind.i64 0)) 3, type := 4, pos := "l06_jar.go:86", after := #[{ on := 4, ground := Ground.data }, { on := 3, ground := Ground.guard }], guard := some (3, false) }) (v := ?vb5) rfl (by kernel_rfl) (by kernel_rfl) (by kernel_rfl) (fun _ _ _ h => h) (Or.inl ⟨by rfl, ?hyb5⟩) (by assumption) ?restb5
          case hyb5 =>
            intro w hSw
            (try dsimp only at hSw)
            go_simp
            try with_reducible rfl
          try simp only [Act.put, List.setIfInBounds_toArray, List.set_cons_zero, List.set_cons_succ]
          refine wpAnyH_take (i := 6) (oi := { dst := some 21, op := Op.move (Operand.tmp 20), type := 4, pos := "l06_jar.go:86", after := #[{ on := 5, ground := Ground.data }, { on := 3, ground := Ground.chain }, { on := 3, ground := Ground.guard }], guard := some (3, false) }) (v := ?vb6) rfl (by kernel_rfl) (by kernel_rfl) (by kernel_rfl) (fun _ _ _ h => h) (Or.inl ⟨by rfl, ?hyb6⟩) (by assumption) ?restb6
          case hyb6 =>
            intro w hSw
            (try dsimp only at hSw)
            go_simp
            try with_reducible rfl
          try simp only [Act.put, List.setIfInBounds_toArray, List.set_cons_zero, List.set_cons_succ]
          refine wpAnyH_take (i := 7) (oi := { dst := some 22, op := Op.move (Operand.tmp 0), type := 34, pos := "l06_jar.go:86", after := #[{ on := 6, ground := Ground.guard }], guard := some (6, true) }) (v := undef) rfl (by kernel_rfl) (by kernel_rfl) (by kernel_rfl) (fun _ _ _ h => h) (Or.inr ⟨by rfl, rfl⟩) (by assumption) ?_
          try simp only [Act.put, List.setIfInBounds_toArray, List.set_cons_zero, List.set_cons_succ]
          refine wpAnyH_take (i := 8) (oi := { dst := some 23, op := Op.move (Operand.tmp 3), type := 3, pos := "l06_jar.go:86", after := #[{ on := 6, ground := Ground.guard }], guard := some (6, true) }) (v := undef) rfl (by kernel_rfl) (by kernel_rfl) (by kernel_rfl) (fun _ _ _ h => h) (Or.inr ⟨by rfl, rfl⟩) (by assumption) ?_
          try simp only [Act.put, List.setIfInBounds_toArray, List.set_cons_zero, List.set_cons_succ]
          refine wpAnyH_take (i := 9) (oi := { dst := some 24, op := Op.binOp BinOp.sub 3 (Operand.tmp 23) (Operand.const (Value.int IntKind.i64 1)) 3, type := 3, pos := "l06_jar.go:86", after := #[{ on := 8, ground := Ground.data }, { on := 6, ground := Ground.guard }], guard := some (6, true) }) (v := undef) rfl (by kernel_rfl) (by kernel_rfl) (by kernel_rfl) (fun _ _ _ h => h) (Or.inr ⟨by rfl, rfl⟩) (by assumption) ?_
          try simp only [Act.put, List.setIfInBounds_toArray, List.set_cons_zero, List.set_cons_succ]
          refine wpAnyH_take (i := 10) (oi := { dst := some 25, op := Op.indexAddr 34 (Operand.tmp 22) (Operand.tmp 24), type := 0, pos := "l06_jar.go:86", after := #[{ on := 7, ground := Ground.data }, { on := 9, ground := Ground.data }, { on := 6, ground := Ground.guard }], guard := some (6, true) }) (v := undef) rfl (by kernel_rfl) (by kernel_rfl) (by kernel_rfl) (fun _ _ _ h => h) (Or.inr ⟨by rfl, rfl⟩) (by assumption) ?_
          try simp only [Act.put, List.setIfInBounds_toArray, List.set_cons_zero, List.set_cons_succ]
          refine wpAnyH_take (i := 11) (oi := { dst := some 26, op := Op.fieldAddr 125 (Operand.tmp 25) 9, type := 0, pos := "l06_jar.go:86", after := #[{ on := 10, ground := Ground.data }, { on := 6, ground := Ground.guard }], guard := some (6, true) }) (v := undef) rfl (by kernel_rfl) (by kernel_rfl) (by kernel_rfl) (fun _ _ _ h => h) (Or.inr ⟨by rfl, rfl⟩) (by assumption) ?_
          try simp only [Act.put, List.setIfInBounds_toArray, List.set_cons_zero, List.set_cons_succ]
          refine wpAnyH_take (i := 12) (oi := { dst := some 27, op := Op.load 2 (Operand.tmp 26), type := 2, pos := "l06_jar.go:86", after := #[{ on := 11, ground := Ground.data }, { on := 6, ground := Ground.guard }], guard := some (6, true) }) (v := undef) rfl (by kernel_rfl) (by kernel_rfl) (by kernel_rfl) (fun _ _ _ h => h) (Or.inr ⟨by rfl, rfl⟩) (by assumption) ?_
          try simp only [Act.put, List.setIfInBounds_toArray, List.set_cons_zero, List.set_cons_succ]
          refine wpAnyH_take (i := 13) (oi := { dst := some 28, op := Op.fieldAddr 125 (Operand.tmp 4) 9, type := 0, pos := "l06_jar.go:86", after := #[{ on := 6, ground := Ground.guard }], guard := some (6, true) }) (v := undef) rfl (by kernel_rfl) (by kernel_rfl) (by kernel_rfl) (fun _ _ _ h => h) (Or.inr ⟨by rfl, rfl⟩) (by assumption) ?_
          try simp only [Act.put, List.setIfInBounds_toArray, List.set_cons_zero, List.set_cons_succ]
          refine wpAnyH_take (i := 14) (oi := { dst := some 29, op := Op.load 2 (Operand.tmp 28), type := 2, pos := "l06_jar.go:86", after := #[{ on := 13, ground := Ground.data }, { on := 6, ground := Ground.guard }], guard := some (6, true) }) (v := undef) rfl (by kernel_rfl) (by kernel_rfl) (by kernel_rfl) (fun _ _ _ h => h) (Or.inr ⟨by rfl, rfl⟩) (by assumption) ?_
          try simp only [Act.put, List.setIfInBounds_toArray, List.set_cons_zero, List.set_cons_succ]
          refine wpAnyH_take (i := 15) (oi := { dst := some 30, op := Op.binOp BinOp.geq 2 (Operand.tmp 27) (Operand.tmp 29) 2, type := 4, pos := "l06_jar.go:86", after := #[{ on := 12, ground := Ground.data }, { on := 14, ground := Ground.data }, { on := 6, ground := Ground.guard }], guard := some (6, true) }) (v := undef) rfl (by kernel_rfl) (by kernel_rfl) (by kernel_rfl) (fun _ _ _ h => h) (Or.inr ⟨by rfl, rfl⟩) (by assumption) ?_
          try simp only [Act.put, List.setIfInBounds_toArray, List.set_cons_zero, List.set_cons_succ]
          refine wpAnyH_take (i := 16) (oi := { dst := some 31, op := Op.pick (Operand.tmp 21) (Operand.tmp 30) (Operand.const (Value.bool false)), type := 4, pos := "l06_jar.go:86", after := #[{ on := 6, ground := Ground.data }, { on := 15, ground := Ground.data }, { on := 3, ground := Ground.guard }], guard := some (3, false) }) (v := ?vb16) rfl (by kernel_rfl) (by kernel_rfl) (by kernel_rfl) (fun _ _ _ h => h) (Or.inl ⟨by rfl, ?hyb16⟩) (by assumption) ?restb16
          case hyb16 =>
            intro w hSw
            (try dsimp only at hSw)
            go_simp
            try with_reducible rfl
          try simp only [Act.put, List.setIfInBounds_toArray, List.set_cons_zero, List.set_cons_succ]
          refine wpAnyH_take (i := 17) (oi := { dst := some 32, op := Op.pick (Operand.tmp 18) (Operand.const (Value.bool true)) (Operand.tmp 31), type := 4, pos := "l06_jar.go:86", after := #[{ on := 3, ground := Ground.data }, { on := 16, ground := Ground.data }], guard := none }) (v := ?vb17) rfl (by kernel_rfl) (by kernel_rfl) (by kernel_rfl) (fun _ _ _ h => h) (Or.inl ⟨by rfl, ?hyb17⟩) (by assumption) ?restb17
          case hyb17 =>
            intro w hSw
            (try dsimp only at hSw)
            go_simp
            try with_reducible rfl
          try simp only [Act.put, List.setIfInBounds_toArray, List.set_cons_zero, List.set_cons_succ]
          refine wpAnyH_done (by kernel_rfl) ?_ _
          have B2 : Hid (Below w.heap.size w w2) := (HBW.out.trans (Below.drew (Below.refl _ _))).trans (hb2.mono HBW.out.size)
          have hg2 : g < w2.heap.size := Nat.lt_of_lt_of_le hgW (Nat.le_trans (Below.drew (Below.refl W0.heap.size W0)).size hb2.size)
          have hb22 : b < w2.heap.size := Nat.lt_of_lt_of_le hbW (Nat.le_trans (Below.drew (Below.refl W0.heap.size W0)).size hb2.size)
          clear hb2
          have KF : Hid (∀ W, Below w2.heap.size w2 W → Calls Tryz.prog 95 #[.slice (some ⟨g, 0, none⟩) 0 0, .func (.func 97) #[.agg #[.string ho, .bool al, .string pa, .string pt, .string na]] #[]] W fun e w' => e = .returned (.bool (hasK L 0 ⟨na, va, ho, al, pa, se, mo, pt, un, ma⟩)) ∧ Below W.heap.size W w') := fun W hb => containsHas_any g 0 L ⟨na, va, ho, al, pa, se, mo, pt, un, ma⟩ W (Nat.lt_of_lt_of_le hg2 hb.size) (by omega) hn (fun j hj o ho => by rw [(bcell (B2.out.trans (hb.mono B2.out.size))).1 _ _ hgw]; exact HC.out j (by omega) o ho)
          have KP : Hid (∀ W, Calls Tryz.prog 96 #[.agg #[.string na, .string va, .string ho, .bool al, .string pa, .bool se, .int .i64 mo, .string pt, .int .i64 un, .int .i64 ma]] W fun e w' => e = .returned (.agg #[.string ho, .bool al, .string pa, .string pt, .string na]) ∧ Below W.heap.size W w') := fun W => placeOf_any ⟨na, va, ho, al, pa, se, mo, pt, un, ma⟩ W
          have HS1 : Hid (hasK L 0 ⟨na, va, ho, al, pa, se, mo, pt, un, ma⟩ = true → R = false) := HSN.out
          have HS2 : Hid (hasK L 0 ⟨na, va, ho, al, pa, se, mo, pt, un, ma⟩ = false → okJ L 0 = true) := HKY.out
          clear HSN HKY
          generalize hasK L 0 ⟨na, va, ho, al, pa, se, mo, pt, un, ma⟩ = hs at *
          go_wp2_with fail
          go_region_held3 (fun w' => w'.cell? ⟨b, 0, none⟩ = some (.string na) ∧ w'.cell? ⟨b, 1, none⟩ = some (.string va) ∧ w'.cell? ⟨b, 2, none⟩ = some (.string ho) ∧ w'.cell? ⟨b, 3, none⟩ = some (.bool al) ∧ w'.cell? ⟨b, 4, none⟩ = some (.string pa) ∧ w'.cell? ⟨b, 5, none⟩ = some (.bool se) ∧ w'.cell? ⟨b, 6, none⟩ = some (.int .i64 mo) ∧ w'.cell? ⟨b, 7, none⟩ = some (.string pt) ∧ w'.cell? ⟨b, 8, none⟩ = some (.int .i64 un) ∧ w'.cell? ⟨b, 9, none⟩ = some (.int .i64 ma)) (go_keep)
            (first | (go_at_call 96; refine (KP.out _).mono ?_; rintro e w3 ⟨rfl, hb3⟩; have A3 : Below w2.heap.size w2 w3 := (Below.drew (Below.refl _ _)).trans hb3; have y0 : w3.cell? ⟨b, 0, none⟩ = some (.string na) := ((bcell A3).1 _ _ hb22).trans x0; have y1 : w3.cell? ⟨b, 1, none⟩ = some (.string va) := ((bcell A3).1 _ _ hb22).trans x1; have y2 : w3.cell? ⟨b, 2, none⟩ = some (.string ho) := ((bcell A3).1 _ _ hb22).trans x2; have y3 : w3.cell? ⟨b, 3, none⟩ = some (.bool al) := ((bcell A3).1 _ _ hb22).trans x3; have y4 : w3.cell? ⟨b, 4, none⟩ = some (.string pa) := ((bcell A3).1 _ _ hb22).trans x4; have y5 : w3.cell? ⟨b, 5, none⟩ = some (.bool se) := ((bcell A3).1 _ _ hb22).trans x5; have y6 : w3.cell? ⟨b, 6, none⟩ = some (.int .i64 mo) := ((bcell A3).1 _ _ hb22).trans x6; have y7 : w3.cell? ⟨b, 7, none⟩ = some (.string pt) := ((bcell A3).1 _ _ hb22).trans x7; have y8 : w3.cell? ⟨b, 8, none⟩ = some (.int .i64 un) := ((bcell A3).1 _ _ hb22).trans x8; have y9 : w3.cell? ⟨b, 9, none⟩ = some (.int .i64 ma) := ((bcell A3).1 _ _ hb22).trans x9) | (go_at_call 95; refine (KF.out _ (by first | exact A3 | exact A3.trans (Below.drew (Below.refl _ _)))).mono ?_; rintro e w4 ⟨rfl, hb4⟩; have A4 : Below w2.heap.size w2 w4 := A3.trans (hb4.mono A3.size); have z0 : w4.cell? ⟨b, 0, none⟩ = some (.string na) := ((bcell A4).1 _ _ hb22).trans x0; have z1 : w4.cell? ⟨b, 1, none⟩ = some (.string va) := ((bcell A4).1 _ _ hb22).trans x1; have z2 : w4.cell? ⟨b, 2, none⟩ = some (.string ho) := ((bcell A4).1 _ _ hb22).trans x2; have z3 : w4.cell? ⟨b, 3, none⟩ = some (.bool al) := ((bcell A4).1 _ _ hb22).trans x3; have z4 : w4.cell? ⟨b, 4, none⟩ = some (.string pa) := ((bcell A4).1 _ _ hb22).trans x4; have z5 : w4.cell? ⟨b, 5, none⟩ = some (.bool se) := ((bcell A4).1 _ _ hb22).trans x5; have z6 : w4.cell? ⟨b, 6, none⟩ = some (.int .i64 mo) := ((bcell A4).1 _ _ hb22).trans x6; have z7 : w4.cell? ⟨b, 7, none⟩ = some (.string pt) := ((bcell A4).1 _ _ hb22).trans x7; have z8 : w4.cell? ⟨b, 8, none⟩ = some (.int .i64 un) := ((bcell A4).1 _ _ hb22).trans x8; have z9 : w4.cell? ⟨b, 9, none⟩ = some (.int .i64 ma) := ((bcell A4).1 _ _ hb22).trans x9))
          have B4 : Hid (Below w.heap.size w w4) := B2.out.trans (A4.mono B2.out.size)
          clear A3 A4 hb3 hb4
          cases hs with
          | true =>
            have HQ : Hid (R = false) := HS1.out rfl
            go_wp2
            go_ret
            exact ⟨ret_bool HQ.out.symm, B4.out⟩
          | false =>
            have HK2 : Hid (okJ L 0 = true) := HS2.out rfl
            go_wp2
            go_roundw
            case rel => exact ⟨1, by omega, by go_num, B4, okJ_succ (k := 0) (fun i hi => absurd hi (by omega)) HK2.out⟩
            case measure => simp [intOf]; omega
        | succ m =>
          have cm0 : wr.cell? ⟨g, m * 10 + 9, none⟩ = some (.int .i64 (atC L m).ma) := by rw [(bcell HB.out).1 _ _ hgw]; exact HC.out m (by omega) 9 (by omega)
          have HMN : Hid (¬ (atC L m).ma < (atC L (m + 1)).ma → R = false) := fun e => HN.out (m + 1) hlt (okJ_made e)
          have HKY2 : Hid ((atC L m).ma < (atC L (m + 1)).ma → hasK L (m + 1) (atC L (m + 1)) = false → okJ L (m + 1) = true) := fun a => HKY1 (.inr a)
          clear HKY1
          generalize hpm : (atC L m).ma = pm at *
          clear hpm
          have q2 : decide ((0 : Int) < ((m : Int) + 1)) = true := by rw [decide_eq_true_iff]; omega
          have hw1 : IntKind.i64.wrap ((m : Int) + 1 - 1) = m := by
            rw [IntKind.wrap_i64]; omega
          have hw2 : IntKind.i64.wrap (m : Int) = m := by rw [IntKind.wrap_i64]; omega
          have p0 : (0 : Int) ≤ (m : Int) + 1 := by omega
          have p1 : (m : Int) + 1 < L.length := by omega
          have pc : (m : Int) + 1 ≤ cap := by omega
          have m0 : (0 : Int) ≤ m := by omega
          have m1 : (m : Int) < L.length := by omega
          generalize atC L (m + 1) = y at *
          obtain ⟨na, va, ho, al, pa, se, mo, pt, un, ma⟩ := y
          unfold ckV at KC0
          dsimp only at *
          obtain ⟨W0, hW⟩ : ∃ W0, W0 = wr.alloc (.cells #[.string na, .string va, .string ho, .bool al, .string pa, .bool se, .int .i64 mo, .string pt, .int .i64 un, .int .i64 ma] 125) := ⟨_, rfl⟩
          have hW0 : Hid (W0 = wr.alloc (.cells #[.string na, .string va, .string ho, .bool al, .string pa, .bool se, .int .i64 mo, .string pt, .int .i64 un, .int .i64 ma] 125)) := hW
          have HBW : Hid (Below w.heap.size w W0) := by show Below _ _ _; rw [hW]; exact HB.out.alloc HB.out.size _
          have HBr : Hid (Below wr.heap.size wr W0) := by show Below _ _ _; rw [hW]; exact (Below.refl _ _).alloc (Nat.le_refl _) _
          have c0 : W0.cell? ⟨wr.heap.size, 0, none⟩ = some (.string na) := by rw [hW]; simp
          have c1 : W0.cell? ⟨wr.heap.size, 1, none⟩ = some (.string va) := by rw [hW]; simp
          have c2 : W0.cell? ⟨wr.heap.size, 2, none⟩ = some (.string ho) := by rw [hW]; simp
          have c3 : W0.cell? ⟨wr.heap.size, 3, none⟩ = some (.bool al) := by rw [hW]; simp
          have c4 : W0.cell? ⟨wr.heap.size, 4, none⟩ = some (.string pa) := by rw [hW]; simp
          have c5 : W0.cell? ⟨wr.heap.size, 5, none⟩ = some (.bool se) := by rw [hW]; simp
          have c6 : W0.cell? ⟨wr.heap.size, 6, none⟩ = some (.int .i64 mo) := by rw [hW]; simp
          have c7 : W0.cell? ⟨wr.heap.size, 7, none⟩ = some (.string pt) := by rw [hW]; simp
          have c8 : W0.cell? ⟨wr.heap.size, 8, none⟩ = some (.int .i64 un) := by rw [hW]; simp
          have c9 : W0.cell? ⟨wr.heap.size, 9, none⟩ = some (.int .i64 ma) := by rw [hW]; simp
          have hbW : wr.heap.size < W0.heap.size := by rw [hW]; simp
          have hgW : g < W0.heap.size := Nat.lt_trans hgr hbW
          clear hW
          have KC : Hid (∀ W, Below W0.heap.size W0 W → Calls Tryz.prog 94 #[.agg #[.string na, .string va, .string ho, .bool al, .string pa, .bool se, .int .i64 mo, .string pt, .int .i64 un, .int .i64 ma]] W fun e w' => e = .returned (.bool true) ∧ Below W.heap.size W w') := fun W hb => KC0 W (HBr.out.trans (hb.mono HBr.out.size))
          have cm : W0.cell? ⟨g, m * 10 + 9, none⟩ = some (.int .i64 pm) := ((bcell HBr.out).1 _ _ hgr).trans cm0
          clear KC0 cm0
          by_cases hlm : pm < ma
          · have qg : decide (ma ≤ pm) = false := by rw [decide_eq_false_iff_not]; omega
            have HKY : Hid (hasK L (m + 1) ⟨na, va, ho, al, pa, se, mo, pt, un, ma⟩ = false → okJ L (m + 1) = true) := HKY2.out hlm
            clear HKY2 HMN
            go_wp2_with fail
            rw [← hW0.out]
            clear hW0
            generalize hbb : wr.heap.size = b at *
            clear hbb HBr HB d0 d1 d2 d3 d4 d5 d6 d7 d8 d9
            refine wp_region_held_drew (S := (fun w' => w'.cell? ⟨b, 0, none⟩ = some (.string na) ∧ w'.cell? ⟨b, 1, none⟩ = some (.string va) ∧ w'.cell? ⟨b, 2, none⟩ = some (.string ho) ∧ w'.cell? ⟨b, 3, none⟩ = some (.bool al) ∧ w'.cell? ⟨b, 4, none⟩ = some (.string pa) ∧ w'.cell? ⟨b, 5, none⟩ = some (.bool se) ∧ w'.cell? ⟨b, 6, none⟩ = some (.int .i64 mo) ∧ w'.cell? ⟨b, 7, none⟩ = some (.string pt) ∧ w'.cell? ⟨b, 8, none⟩ = some (.int .i64 un) ∧ w'.cell? ⟨b, 9, none⟩ = some (.int .i64 ma) ∧ w'.cell? ⟨g, m * 10 + 9, none⟩ = some (.int .i64 pm))) (by kernel_rfl) ?_ (fun hH0 => ?_)
            · (try dsimp only)
              go_keep
            refine wpAnyH_take (i := 0) (oi := { dst := some 15, op := Op.load 125 (Operand.tmp 4), type := 125, pos := "l06_jar.go:86", after := #[], guard := none }) (v := ?vc0) rfl (by kernel_rfl) (by kernel_rfl) (by kernel_rfl) (fun _ _ _ h => h) (Or.inl ⟨by rfl, ?hyc0⟩) (by assumption) ?restc0
            case hyc0 =>
              intro w hSw
              (try dsimp only at hSw)
              go_simp
              try with_reducible rfl
            try simp only [Act.put, List.setIfInBounds_toArray, List.set_cons_zero, List.set_cons_succ]
            refine wpAnyH_ready (rs := [1]) (by kernel_rfl) (by simp) ?_
            refine AllReadyH.cons (o := { dst := some 16, op := Op.call { callee := Callee.value (Operand.func 94), args := #[Operand.tmp 15], argTypes := #[125] }, type := 4, pos := "l06_jar.go:86", after := #[{ on := 0, ground := Ground.data }], guard := none }) rfl (fun K hK => ?_) AllReadyH.nil
            go_simp
            (go_at_call 94; refine (KC.out _ (Below.drew (Below.refl _ _))).mono ?_; rintro e w2 ⟨rfl, hb2⟩; have x0 : w2.cell? ⟨b, 0, none⟩ = some (.string na) := ((bcell hb2).1 _ _ hbW).trans c0; have x1 : w2.cell? ⟨b, 1, none⟩ = some (.string va) := ((bcell hb2).1 _ _ hbW).trans c1; have x2 : w2.cell? ⟨b, 2, none⟩ = some (.string ho) := ((bcell hb2).1 _ _ hbW).trans c2; have x3 : w2.cell? ⟨b, 3, none⟩ = some (.bool al) := ((bcell hb2).1 _ _ hbW).trans c3; have x4 : w2.cell? ⟨b, 4, none⟩ = some (.string pa) := ((bcell hb2).1 _ _ hbW).trans c4; have x5 : w2.cell? ⟨b, 5, none⟩ = some (.bool se) := ((bcell hb2).1 _ _ hbW).trans c5; have x6 : w2.cell? ⟨b, 6, none⟩ = some (.int .i64 mo) := ((bcell hb2).1 _ _ hbW).trans c6; have x7 : w2.cell? ⟨b, 7, none⟩ = some (.string pt) := ((bcell hb2).1 _ _ hbW).trans c7; have x8 : w2.cell? ⟨b, 8, none⟩ = some (.int .i64 un) := ((bcell hb2).1 _ _ hbW).trans c8; have x9 : w2.cell? ⟨b, 9, none⟩ = some (.int .i64 ma) := ((bcell hb2).1 _ _ hbW).trans c9; have xm : w2.cell? ⟨g, m * 10 + 9, none⟩ = some (.int .i64 pm) := ((bcell hb2).1 _ _ hgW).trans cm)
            try (go_wp2_with fail)
            refine hK.out _ _ ?_ (fun hH1 => ?_)
            · (try dsimp only)
              go_keep
            clear hK K hH0
            try simp only [Act.put, List.setIfInBounds_toArray, List.set_cons_zero, List.set_cons_succ]
            refine wpAnyH_take (i := 2) (oi := { dst := some 17, op := Op.unOp UnOp.not 4 (Operand.tmp 16), type := 4, pos := "l06_jar.go:86", after := #[{ on := 1, ground := Ground.data }], guard := none }) (v := ?vc2) rfl (by kernel_rfl) (by kernel_rfl) (by kernel_rfl) (fun _ _ _ h => h) (Or.inl ⟨by rfl, ?hyc2⟩) (by assumption) ?restc2
            case hyc2 =>
              intro w hSw
              (try dsimp only at hSw)
              go_simp
              try with_reducible rfl
            try simp only [Act.put, List.setIfInBounds_toArray, List.set_cons_zero, List.set_cons_succ]
            refine wpAnyH_take (i := 3) (oi := { dst := some 18, op := Op.move (Operand.tmp 17), type := 4, pos := "l06_jar.go:86", after := #[{ on := 2, ground := Ground.data }, { on := 1, ground := Ground.chain }], guard := none }) (v := ?vc3) rfl (by kernel_rfl) (by kernel_rfl) (by kernel_rfl) (fun _ _ _ h => h) (Or.inl ⟨by rfl, ?hyc3⟩) (by assumption) ?restc3
            case hyc3 =>
              intro w hSw
              (try dsimp only at hSw)
              go_simp
              try with_reducible rfl
            try simp only [Act.put, List.setIfInBounds_toArray, List.set_cons_zero, List.set_cons_succ]
            refine wpAnyH_take (i := 4) (oi := { dst := some 19, op := Op.move (Operand.tmp 3), type := 3, pos := "l06_jar.go:86", after := #[{ on := 3, ground := Ground.guard }], guard := some (3, false) }) (v := ?vc4) rfl (by kernel_rfl) (by kernel_rfl) (by kernel_rfl) (fun _ _ _ h => h) (Or.inl ⟨by rfl, ?hyc4⟩) (by assumption) ?restc4
            case hyc4 =>
              intro w hSw
              (try dsimp only at hSw)
              go_simp
              try with_reducible rfl
            try simp only [Act.put, List.setIfInBounds_toArray, List.set_cons_zero, List.set_cons_succ]
            refine wpAnyH_take (i := 5) (oi := { dst := some 20, op := Op.binOp BinOp.gtr 3 (Operand.tmp 19) (Operand.const (Value.int IntKind.i64 0)) 3, type := 4, pos := "l06_jar.go:86", after := #[{ on := 4, ground := Ground.data }, { on := 3, ground := Ground.guard }], guard := some (3, false) }) (v := ?vc5) rfl (by kernel_rfl) (by kernel_rfl) (by kernel_rfl) (fun _ _ _ h => h) (Or.inl ⟨by rfl, ?hyc5⟩) (by assumption) ?restc5
            case hyc5 =>
              intro w hSw
              (try dsimp only at hSw)
              go_simp
              try with_reducible rfl
            try simp only [Act.put, List.setIfInBounds_toArray, List.set_cons_zero, List.set_cons_succ]
            refine wpAnyH_take (i := 6) (oi := { dst := some 21, op := Op.move (Operand.tmp 20), type := 4, pos := "l06_jar.go:86", after := #[{ on := 5, ground := Ground.data }, { on := 3, ground := Ground.chain }, { on := 3, ground := Ground.guard }], guard := some (3, false) }) (v := ?vc6) rfl (by kernel_rfl) (by kernel_rfl) (by kernel_rfl) (fun _ _ _ h => h) (Or.inl ⟨by rfl, ?hyc6⟩) (by assumption) ?restc6
            case hyc6 =>
              intro w hSw
              (try dsimp only at hSw)
              go_simp
              try with_reducible rfl
            try simp only [Act.put, List.setIfInBounds_toArray, List.set_cons_zero, List.set_cons_succ]
            refine wpAnyH_take (i := 7) (oi := { dst := some 22, op := Op.move (Operand.tmp 0), type := 34, pos := "l06_jar.go:86", after := #[{ on := 6, ground := Ground.guard }], guard := some (6, true) }) (v := ?vc7) rfl (by kernel_rfl) (by kernel_rfl) (by kernel_rfl) (fun _ _ _ h => h) (Or.inl ⟨by rfl, ?hyc7⟩) (by assumption) ?restc7
            case hyc7 =>
              intro w hSw
              (try dsimp only at hSw)
              go_simp
              try with_reducible rfl
            try simp only [Act.put, List.setIfInBounds_toArray, List.set_cons_zero, List.set_cons_succ]
            refine wpAnyH_take (i := 8) (oi := { dst := some 23, op := Op.move (Operand.tmp 3), type := 3, pos := "l06_jar.go:86", after := #[{ on := 6, ground := Ground.guard }], guard := some (6, true) }) (v := ?vc8) rfl (by kernel_rfl) (by kernel_rfl) (by kernel_rfl) (fun _ _ _ h => h) (Or.inl ⟨by rfl, ?hyc8⟩) (by assumption) ?restc8
            case hyc8 =>
              intro w hSw
              (try dsimp only at hSw)
              go_simp
              try with_reducible rfl
            try simp only [Act.put, List.setIfInBounds_toArray, List.set_cons_zero, List.set_cons_succ]
            refine wpAnyH_take (i := 9) (oi := { dst := some 24, op := Op.binOp BinOp.sub 3 (Operand.tmp 23) (Operand.const (Value.int IntKind.i64 1)) 3, type := 3, pos := "l06_jar.go:86", after := #[{ on := 8, ground := Ground.data }, { on := 6, ground := Ground.guard }], guard := some (6, true) }) (v := ?vc9) rfl (by kernel_rfl) (by kernel_rfl) (by kernel_rfl) (fun _ _ _ h => h) (Or.inl ⟨by rfl, ?hyc9⟩) (by assumption) ?restc9
            case hyc9 =>
              intro w hSw
              (try dsimp only at hSw)
              go_simp
              try with_reducible rfl
            try simp only [Act.put, List.setIfInBounds_toArray, List.set_cons_zero, List.set_cons_succ]
            refine wpAnyH_take (i := 10) (oi := { dst := some 25, op := Op.indexAddr 34 (Operand.tmp 22) (Operand.tmp 24), type := 0, pos := "l06_jar.go:86", after := #[{ on := 7, ground := Ground.data }, { on := 9, ground := Ground.data }, { on := 6, ground := Ground.guard }], guard := some (6, true) }) (v := ?vc10) rfl (by kernel_rfl) (by kernel_rfl) (by kernel_rfl) (fun _ _ _ h => h) (Or.inl ⟨by rfl, ?hyc10⟩) (by assumption) ?restc10
            case hyc10 =>
              intro w hSw
              (try dsimp only at hSw)
              go_simp
              try with_reducible rfl
            try simp only [Act.put, List.setIfInBounds_toArray, List.set_cons_zero, List.set_cons_succ]
            refine wpAnyH_take (i := 11) (oi := { dst := some 26, op := Op.fieldAddr 125 (Operand.tmp 25) 9, type := 0, pos := "l06_jar.go:86", after := #[{ on := 10, ground := Ground.data }, { on := 6, ground := Ground.guard }], guard := some (6, true) }) (v := ?vc11) rfl (by kernel_rfl) (by kernel_rfl) (by kernel_rfl) (fun _ _ _ h => h) (Or.inl ⟨by rfl, ?hyc11⟩) (by assumption) ?restc11
            case hyc11 =>
              intro w hSw
              (try dsimp only at hSw)
              go_simp
              try with_reducible rfl
            try simp only [Act.put, List.setIfInBounds_toArray, List.set_cons_zero, List.set_cons_succ]
            refine wpAnyH_take (i := 12) (oi := { dst := some 27, op := Op.load 2 (Operand.tmp 26), type := 2, pos := "l06_jar.go:86", after := #[{ on := 11, ground := Ground.data }, { on := 6, ground := Ground.guard }], guard := some (6, true) }) (v := ?vc12) rfl (by kernel_rfl) (by kernel_rfl) (by kernel_rfl) (fun _ _ _ h => h) (Or.inl ⟨by rfl, ?hyc12⟩) (by assumption) ?restc12
            case hyc12 =>
              intro w hSw
              (try dsimp only at hSw)
              go_simp
              try with_reducible rfl
            try simp only [Act.put, List.setIfInBounds_toArray, List.set_cons_zero, List.set_cons_succ]
            refine wpAnyH_take (i := 13) (oi := { dst := some 28, op := Op.fieldAddr 125 (Operand.tmp 4) 9, type := 0, pos := "l06_jar.go:86", after := #[{ on := 6, ground := Ground.guard }], guard := some (6, true) }) (v := ?vc13) rfl (by kernel_rfl) (by kernel_rfl) (by kernel_rfl) (fun _ _ _ h => h) (Or.inl ⟨by rfl, ?hyc13⟩) (by assumption) ?restc13
            case hyc13 =>
              intro w hSw
              (try dsimp only at hSw)
              go_simp
              try with_reducible rfl
            try simp only [Act.put, List.setIfInBounds_toArray, List.set_cons_zero, List.set_cons_succ]
            refine wpAnyH_take (i := 14) (oi := { dst := some 29, op := Op.load 2 (Operand.tmp 28), type := 2, pos := "l06_jar.go:86", after := #[{ on := 13, ground := Ground.data }, { on := 6, ground := Ground.guard }], guard := some (6, true) }) (v := ?vc14) rfl (by kernel_rfl) (by kernel_rfl) (by kernel_rfl) (fun _ _ _ h => h) (Or.inl ⟨by rfl, ?hyc14⟩) (by assumption) ?restc14
            case hyc14 =>
              intro w hSw
              (try dsimp only at hSw)
              go_simp
              try with_reducible rfl
            try simp only [Act.put, List.setIfInBounds_toArray, List.set_cons_zero, List.set_cons_succ]
            refine wpAnyH_take (i := 15) (oi := { dst := some 30, op := Op.binOp BinOp.geq 2 (Operand.tmp 27) (Operand.tmp 29) 2, type := 4, pos := "l06_jar.go:86", after := #[{ on := 12, ground := Ground.data }, { on := 14, ground := Ground.data }, { on := 6, ground := Ground.guard }], guard := some (6, true) }) (v := ?vc15) rfl (by kernel_rfl) (by kernel_rfl) (by kernel_rfl) (fun _ _ _ h => h) (Or.inl ⟨by rfl, ?hyc15⟩) (by assumption) ?restc15
            case hyc15 =>
              intro w hSw
              (try dsimp only at hSw)
              go_simp
              try with_reducible rfl
            try simp only [Act.put, List.setIfInBounds_toArray, List.set_cons_zero, List.set_cons_succ]
            refine wpAnyH_take (i := 16) (oi := { dst := some 31, op := Op.pick (Operand.tmp 21) (Operand.tmp 30) (Operand.const (Value.bool false)), type := 4, pos := "l06_jar.go:86", after := #[{ on := 6, ground := Ground.data }, { on := 15, ground := Ground.data }, { on := 3, ground := Ground.guard }], guard := some (3, false) }) (v := ?vc16) rfl (by kernel_rfl) (by kernel_rfl) (by kernel_rfl) (fun _ _ _ h => h) (Or.inl ⟨by rfl, ?hyc16⟩) (by assumption) ?restc16
            case hyc16 =>
              intro w hSw
              (try dsimp only at hSw)
              go_simp
              try with_reducible rfl
            try simp only [Act.put, List.setIfInBounds_toArray, List.set_cons_zero, List.set_cons_succ]
            refine wpAnyH_take (i := 17) (oi := { dst := some 32, op := Op.pick (Operand.tmp 18) (Operand.const (Value.bool true)) (Operand.tmp 31), type := 4, pos := "l06_jar.go:86", after := #[{ on := 3, ground := Ground.data }, { on := 16, ground := Ground.data }], guard := none }) (v := ?vc17) rfl (by kernel_rfl) (by kernel_rfl) (by kernel_rfl) (fun _ _ _ h => h) (Or.inl ⟨by rfl, ?hyc17⟩) (by assumption) ?restc17
            case hyc17 =>
              intro w hSw
              (try dsimp only at hSw)
              go_simp
              try with_reducible rfl
            try simp only [Act.put, List.setIfInBounds_toArray, List.set_cons_zero, List.set_cons_succ]
            refine wpAnyH_done (by kernel_rfl) ?_ _
            have B2 : Hid (Below w.heap.size w w2) := (HBW.out.trans (Below.drew (Below.refl _ _))).trans (hb2.mono HBW.out.size)
            have hg2 : g < w2.heap.size := Nat.lt_of_lt_of_le hgW (Nat.le_trans (Below.drew (Below.refl W0.heap.size W0)).size hb2.size)
            have hb22 : b < w2.heap.size := Nat.lt_of_lt_of_le hbW (Nat.le_trans (Below.drew (Below.refl W0.heap.size W0)).size hb2.size)
            clear hb2
            have KF : Hid (∀ W, Below w2.heap.size w2 W → Calls Tryz.prog 95 #[.slice (some ⟨g, 0, none⟩) (m + 1) (m + 1), .func (.func 97) #[.agg #[.string ho, .bool al, .string pa, .string pt, .string na]] #[]] W fun e w' => e = .returned (.bool (hasK L (m + 1) ⟨na, va, ho, al, pa, se, mo, pt, un, ma⟩)) ∧ Below W.heap.size W w') := fun W hb => containsHas_any g (m + 1) L ⟨na, va, ho, al, pa, se, mo, pt, un, ma⟩ W (Nat.lt_of_lt_of_le hg2 hb.size) (by omega) hn (fun j hj o ho => by rw [(bcell (B2.out.trans (hb.mono B2.out.size))).1 _ _ hgw]; exact HC.out j (by omega) o ho)
            have KP : Hid (∀ W, Calls Tryz.prog 96 #[.agg #[.string na, .string va, .string ho, .bool al, .string pa, .bool se, .int .i64 mo, .string pt, .int .i64 un, .int .i64 ma]] W fun e w' => e = .returned (.agg #[.string ho, .bool al, .string pa, .string pt, .string na]) ∧ Below W.heap.size W w') := fun W => placeOf_any ⟨na, va, ho, al, pa, se, mo, pt, un, ma⟩ W
            have HS1 : Hid (hasK L (m + 1) ⟨na, va, ho, al, pa, se, mo, pt, un, ma⟩ = true → R = false) := HSN.out
            have HS2 : Hid (hasK L (m + 1) ⟨na, va, ho, al, pa, se, mo, pt, un, ma⟩ = false → okJ L (m + 1) = true) := HKY.out
            clear HSN HKY
            generalize hasK L (m + 1) ⟨na, va, ho, al, pa, se, mo, pt, un, ma⟩ = hs at *
            go_wp2_with fail
            go_region_held3 (fun w' => w'.cell? ⟨b, 0, none⟩ = some (.string na) ∧ w'.cell? ⟨b, 1, none⟩ = some (.string va) ∧ w'.cell? ⟨b, 2, none⟩ = some (.string ho) ∧ w'.cell? ⟨b, 3, none⟩ = some (.bool al) ∧ w'.cell? ⟨b, 4, none⟩ = some (.string pa) ∧ w'.cell? ⟨b, 5, none⟩ = some (.bool se) ∧ w'.cell? ⟨b, 6, none⟩ = some (.int .i64 mo) ∧ w'.cell? ⟨b, 7, none⟩ = some (.string pt) ∧ w'.cell? ⟨b, 8, none⟩ = some (.int .i64 un) ∧ w'.cell? ⟨b, 9, none⟩ = some (.int .i64 ma)) (go_keep)
              (first | (go_at_call 96; refine (KP.out _).mono ?_; rintro e w3 ⟨rfl, hb3⟩; have A3 : Below w2.heap.size w2 w3 := (Below.drew (Below.refl _ _)).trans hb3; have y0 : w3.cell? ⟨b, 0, none⟩ = some (.string na) := ((bcell A3).1 _ _ hb22).trans x0; have y1 : w3.cell? ⟨b, 1, none⟩ = some (.string va) := ((bcell A3).1 _ _ hb22).trans x1; have y2 : w3.cell? ⟨b, 2, none⟩ = some (.string ho) := ((bcell A3).1 _ _ hb22).trans x2; have y3 : w3.cell? ⟨b, 3, none⟩ = some (.bool al) := ((bcell A3).1 _ _ hb22).trans x3; have y4 : w3.cell? ⟨b, 4, none⟩ = some (.string pa) := ((bcell A3).1 _ _ hb22).trans x4; have y5 : w3.cell? ⟨b, 5, none⟩ = some (.bool se) := ((bcell A3).1 _ _ hb22).trans x5; have y6 : w3.cell? ⟨b, 6, none⟩ = some (.int .i64 mo) := ((bcell A3).1 _ _ hb22).trans x6; have y7 : w3.cell? ⟨b, 7, none⟩ = some (.string pt) := ((bcell A3).1 _ _ hb22).trans x7; have y8 : w3.cell? ⟨b, 8, none⟩ = some (.int .i64 un) := ((bcell A3).1 _ _ hb22).trans x8; have y9 : w3.cell? ⟨b, 9, none⟩ = some (.int .i64 ma) := ((bcell A3).1 _ _ hb22).trans x9) | (go_at_call 95; refine (KF.out _ (by first | exact A3 | exact A3.trans (Below.drew (Below.refl _ _)))).mono ?_; rintro e w4 ⟨rfl, hb4⟩; have A4 : Below w2.heap.size w2 w4 := A3.trans (hb4.mono A3.size); have z0 : w4.cell? ⟨b, 0, none⟩ = some (.string na) := ((bcell A4).1 _ _ hb22).trans x0; have z1 : w4.cell? ⟨b, 1, none⟩ = some (.string va) := ((bcell A4).1 _ _ hb22).trans x1; have z2 : w4.cell? ⟨b, 2, none⟩ = some (.string ho) := ((bcell A4).1 _ _ hb22).trans x2; have z3 : w4.cell? ⟨b, 3, none⟩ = some (.bool al) := ((bcell A4).1 _ _ hb22).trans x3; have z4 : w4.cell? ⟨b, 4, none⟩ = some (.string pa) := ((bcell A4).1 _ _ hb22).trans x4; have z5 : w4.cell? ⟨b, 5, none⟩ = some (.bool se) := ((bcell A4).1 _ _ hb22).trans x5; have z6 : w4.cell? ⟨b, 6, none⟩ = some (.int .i64 mo) := ((bcell A4).1 _ _ hb22).trans x6; have z7 : w4.cell? ⟨b, 7, none⟩ = some (.string pt) := ((bcell A4).1 _ _ hb22).trans x7; have z8 : w4.cell? ⟨b, 8, none⟩ = some (.int .i64 un) := ((bcell A4).1 _ _ hb22).trans x8; have z9 : w4.cell? ⟨b, 9, none⟩ = some (.int .i64 ma) := ((bcell A4).1 _ _ hb22).trans x9))
            have B4 : Hid (Below w.heap.size w w4) := B2.out.trans (A4.mono B2.out.size)
            clear A3 A4 hb3 hb4
            cases hs with
            | true =>
              have HQ : Hid (R = false) := HS1.out rfl
              go_wp2
              go_ret
              exact ⟨ret_bool HQ.out.symm, B4.out⟩
            | false =>
              have HK2 : Hid (okJ L (m + 1) = true) := HS2.out rfl
              go_wp2
              go_roundw
              case rel => exact ⟨m + 2, by omega, by go_num, B4, okJ_succ HR.out HK2.out⟩
              case measure => simp [intOf]; omega
          · have qg : decide (ma ≤ pm) = true := by rw [decide_eq_true_iff]; omega
            have HQ : Hid (R = false) := HMN.out hlm
            clear HKY2 HMN HSN
            go_wp2_with fail
            rw [← hW0.out]
            clear hW0
            generalize hbb : wr.heap.size = b at *
            clear hbb HBr HB d0 d1 d2 d3 d4 d5 d6 d7 d8 d9
            refine wp_region_held_drew (S := (fun w' => w'.cell? ⟨b, 0, none⟩ = some (.string na) ∧ w'.cell? ⟨b, 1, none⟩ = some (.string va) ∧ w'.cell? ⟨b, 2, none⟩ = some (.string ho) ∧ w'.cell? ⟨b, 3, none⟩ = some (.bool al) ∧ w'.cell? ⟨b, 4, none⟩ = some (.string pa) ∧ w'.cell? ⟨b, 5, none⟩ = some (.bool se) ∧ w'.cell? ⟨b, 6, none⟩ = some (.int .i64 mo) ∧ w'.cell? ⟨b, 7, none⟩ = some (.string pt) ∧ w'.cell? ⟨b, 8, none⟩ = some (.int .i64 un) ∧ w'.cell? ⟨b, 9, none⟩ = some (.int .i64 ma) ∧ w'.cell? ⟨g, m * 10 + 9, none⟩ = some (.int .i64 pm))) (by kernel_rfl) ?_ (fun hH0 => ?_)
            · (try dsimp only)
              go_keep
            refine wpAnyH_take (i := 0) (oi := { dst := some 15, op := Op.load 125 (Operand.tmp 4), type := 125, pos := "l06_jar.go:86", after := #[], guard := none }) (v := ?vd0) rfl (by kernel_rfl) (by kernel_rfl) (by kernel_rfl) (fun _ _ _ h => h) (Or.inl ⟨by rfl, ?hyd0⟩) (by assumption) ?restd0
            case hyd0 =>
              intro w hSw
              (try dsimp only at hSw)
              go_simp
              try with_reducible rfl
            try simp only [Act.put, List.setIfInBounds_toArray, List.set_cons_zero, List.set_cons_succ]
            refine wpAnyH_ready (rs := [1]) (by kernel_rfl) (by simp) ?_
            refine AllReadyH.cons (o := { dst := some 16, op := Op.call { callee := Callee.value (Operand.func 94), args := #[Operand.tmp 15], argTypes := #[125] }, type := 4, pos := "l06_jar.go:86", after := #[{ on := 0, ground := Ground.data }], guard := none }) rfl (fun K hK => ?_) AllReadyH.nil
            go_simp
            (go_at_call 94; refine (KC.out _ (Below.drew (Below.refl _ _))).mono ?_; rintro e w2 ⟨rfl, hb2⟩; have x0 : w2.cell? ⟨b, 0, none⟩ = some (.string na) := ((bcell hb2).1 _ _ hbW).trans c0; have x1 : w2.cell? ⟨b, 1, none⟩ = some (.string va) := ((bcell hb2).1 _ _ hbW).trans c1; have x2 : w2.cell? ⟨b, 2, none⟩ = some (.string ho) := ((bcell hb2).1 _ _ hbW).trans c2; have x3 : w2.cell? ⟨b, 3, none⟩ = some (.bool al) := ((bcell hb2).1 _ _ hbW).trans c3; have x4 : w2.cell? ⟨b, 4, none⟩ = some (.string pa) := ((bcell hb2).1 _ _ hbW).trans c4; have x5 : w2.cell? ⟨b, 5, none⟩ = some (.bool se) := ((bcell hb2).1 _ _ hbW).trans c5; have x6 : w2.cell? ⟨b, 6, none⟩ = some (.int .i64 mo) := ((bcell hb2).1 _ _ hbW).trans c6; have x7 : w2.cell? ⟨b, 7, none⟩ = some (.string pt) := ((bcell hb2).1 _ _ hbW).trans c7; have x8 : w2.cell? ⟨b, 8, none⟩ = some (.int .i64 un) := ((bcell hb2).1 _ _ hbW).trans c8; have x9 : w2.cell? ⟨b, 9, none⟩ = some (.int .i64 ma) := ((bcell hb2).1 _ _ hbW).trans c9; have xm : w2.cell? ⟨g, m * 10 + 9, none⟩ = some (.int .i64 pm) := ((bcell hb2).1 _ _ hgW).trans cm)
            try (go_wp2_with fail)
            refine hK.out _ _ ?_ (fun hH1 => ?_)
            · (try dsimp only)
              go_keep
            clear hK K hH0
            try simp only [Act.put, List.setIfInBounds_toArray, List.set_cons_zero, List.set_cons_succ]
            refine wpAnyH_take (i := 2) (oi := { dst := some 17, op := Op.unOp UnOp.not 4 (Operand.tmp 16), type := 4, pos := "l06_jar.go:86", after := #[{ on := 1, ground := Ground.data }], guard := none }) (v := ?vd2) rfl (by kernel_rfl) (by kernel_rfl) (by kernel_rfl) (fun _ _ _ h => h) (Or.inl ⟨by rfl, ?hyd2⟩) (by assumption) ?restd2
            case hyd2 =>
              intro w hSw
              (try dsimp only at hSw)
              go_simp
              try with_reducible rfl
            try simp only [Act.put, List.setIfInBounds_toArray, List.set_cons_zero, List.set_cons_succ]
            refine wpAnyH_take (i := 3) (oi := { dst := some 18, op := Op.move (Operand.tmp 17), type := 4, pos := "l06_jar.go:86", after := #[{ on := 2, ground := Ground.data }, { on := 1, ground := Ground.chain }], guard := none }) (v := ?vd3) rfl (by kernel_rfl) (by kernel_rfl) (by kernel_rfl) (fun _ _ _ h => h) (Or.inl ⟨by rfl, ?hyd3⟩) (by assumption) ?restd3
            case hyd3 =>
              intro w hSw
              (try dsimp only at hSw)
              go_simp
              try with_reducible rfl
            try simp only [Act.put, List.setIfInBounds_toArray, List.set_cons_zero, List.set_cons_succ]
            refine wpAnyH_take (i := 4) (oi := { dst := some 19, op := Op.move (Operand.tmp 3), type := 3, pos := "l06_jar.go:86", after := #[{ on := 3, ground := Ground.guard }], guard := some (3, false) }) (v := ?vd4) rfl (by kernel_rfl) (by kernel_rfl) (by kernel_rfl) (fun _ _ _ h => h) (Or.inl ⟨by rfl, ?hyd4⟩) (by assumption) ?restd4
            case hyd4 =>
              intro w hSw
              (try dsimp only at hSw)
              go_simp
              try with_reducible rfl
            try simp only [Act.put, List.setIfInBounds_toArray, List.set_cons_zero, List.set_cons_succ]
            refine wpAnyH_take (i := 5) (oi := { dst := some 20, op := Op.binOp BinOp.gtr 3 (Operand.tmp 19) (Operand.const (Value.int IntKind.i64 0)) 3, type := 4, pos := "l06_jar.go:86", after := #[{ on := 4, ground := Ground.data }, { on := 3, ground := Ground.guard }], guard := some (3, false) }) (v := ?vd5) rfl (by kernel_rfl) (by kernel_rfl) (by kernel_rfl) (fun _ _ _ h => h) (Or.inl ⟨by rfl, ?hyd5⟩) (by assumption) ?restd5
            case hyd5 =>
              intro w hSw
              (try dsimp only at hSw)
              go_simp
              try with_reducible rfl
            try simp only [Act.put, List.setIfInBounds_toArray, List.set_cons_zero, List.set_cons_succ]
            refine wpAnyH_take (i := 6) (oi := { dst := some 21, op := Op.move (Operand.tmp 20), type := 4, pos := "l06_jar.go:86", after := #[{ on := 5, ground := Ground.data }, { on := 3, ground := Ground.chain }, { on := 3, ground := Ground.guard }], guard := some (3, false) }) (v := ?vd6) rfl (by kernel_rfl) (by kernel_rfl) (by kernel_rfl) (fun _ _ _ h => h) (Or.inl ⟨by rfl, ?hyd6⟩) (by assumption) ?restd6
            case hyd6 =>
              intro w hSw
              (try dsimp only at hSw)
              go_simp
              try with_reducible rfl
            try simp only [Act.put, List.setIfInBounds_toArray, List.set_cons_zero, List.set_cons_succ]
            refine wpAnyH_take (i := 7) (oi := { dst := some 22, op := Op.move (Operand.tmp 0), type := 34, pos := "l06_jar.go:86", after := #[{ on := 6, ground := Ground.guard }], guard := some (6, true) }) (v := ?vd7) rfl (by kernel_rfl) (by kernel_rfl) (by kernel_rfl) (fun _ _ _ h => h) (Or.inl ⟨by rfl, ?hyd7⟩) (by assumption) ?restd7
            case hyd7 =>
              intro w hSw
              (try dsimp only at hSw)
              go_simp
              try with_reducible rfl
            try simp only [Act.put, List.setIfInBounds_toArray, List.set_cons_zero, List.set_cons_succ]
            refine wpAnyH_take (i := 8) (oi := { dst := some 23, op := Op.move (Operand.tmp 3), type := 3, pos := "l06_jar.go:86", after := #[{ on := 6, ground := Ground.guard }], guard := some (6, true) }) (v := ?vd8) rfl (by kernel_rfl) (by kernel_rfl) (by kernel_rfl) (fun _ _ _ h => h) (Or.inl ⟨by rfl, ?hyd8⟩) (by assumption) ?restd8
            case hyd8 =>
              intro w hSw
              (try dsimp only at hSw)
              go_simp
              try with_reducible rfl
            try simp only [Act.put, List.setIfInBounds_toArray, List.set_cons_zero, List.set_cons_succ]
            refine wpAnyH_take (i := 9) (oi := { dst := some 24, op := Op.binOp BinOp.sub 3 (Operand.tmp 23) (Operand.const (Value.int IntKind.i64 1)) 3, type := 3, pos := "l06_jar.go:86", after := #[{ on := 8, ground := Ground.data }, { on := 6, ground := Ground.guard }], guard := some (6, true) }) (v := ?vd9) rfl (by kernel_rfl) (by kernel_rfl) (by kernel_rfl) (fun _ _ _ h => h) (Or.inl ⟨by rfl, ?hyd9⟩) (by assumption) ?restd9
            case hyd9 =>
              intro w hSw
              (try dsimp only at hSw)
              go_simp
              try with_reducible rfl
            try simp only [Act.put, List.setIfInBounds_toArray, List.set_cons_zero, List.set_cons_succ]
            refine wpAnyH_take (i := 10) (oi := { dst := some 25, op := Op.indexAddr 34 (Operand.tmp 22) (Operand.tmp 24), type := 0, pos := "l06_jar.go:86", after := #[{ on := 7, ground := Ground.data }, { on := 9, ground := Ground.data }, { on := 6, ground := Ground.guard }], guard := some (6, true) }) (v := ?vd10) rfl (by kernel_rfl) (by kernel_rfl) (by kernel_rfl) (fun _ _ _ h => h) (Or.inl ⟨by rfl, ?hyd10⟩) (by assumption) ?restd10
            case hyd10 =>
              intro w hSw
              (try dsimp only at hSw)
              go_simp
              try with_reducible rfl
            try simp only [Act.put, List.setIfInBounds_toArray, List.set_cons_zero, List.set_cons_succ]
            refine wpAnyH_take (i := 11) (oi := { dst := some 26, op := Op.fieldAddr 125 (Operand.tmp 25) 9, type := 0, pos := "l06_jar.go:86", after := #[{ on := 10, ground := Ground.data }, { on := 6, ground := Ground.guard }], guard := some (6, true) }) (v := ?vd11) rfl (by kernel_rfl) (by kernel_rfl) (by kernel_rfl) (fun _ _ _ h => h) (Or.inl ⟨by rfl, ?hyd11⟩) (by assumption) ?restd11
            case hyd11 =>
              intro w hSw
              (try dsimp only at hSw)
              go_simp
              try with_reducible rfl
            try simp only [Act.put, List.setIfInBounds_toArray, List.set_cons_zero, List.set_cons_succ]
            refine wpAnyH_take (i := 12) (oi := { dst := some 27, op := Op.load 2 (Operand.tmp 26), type := 2, pos := "l06_jar.go:86", after := #[{ on := 11, ground := Ground.data }, { on := 6, ground := Ground.guard }], guard := some (6, true) }) (v := ?vd12) rfl (by kernel_rfl) (by kernel_rfl) (by kernel_rfl) (fun _ _ _ h => h) (Or.inl ⟨by rfl, ?hyd12⟩) (by assumption) ?restd12
            case hyd12 =>
              intro w hSw
              (try dsimp only at hSw)
              go_simp
              try with_reducible rfl
            try simp only [Act.put, List.setIfInBounds_toArray, List.set_cons_zero, List.set_cons_succ]
            refine wpAnyH_take (i := 13) (oi := { dst := some 28, op := Op.fieldAddr 125 (Operand.tmp 4) 9, type := 0, pos := "l06_jar.go:86", after := #[{ on := 6, ground := Ground.guard }], guard := some (6, true) }) (v := ?vd13) rfl (by kernel_rfl) (by kernel_rfl) (by kernel_rfl) (fun _ _ _ h => h) (Or.inl ⟨by rfl, ?hyd13⟩) (by assumption) ?restd13
            case hyd13 =>
              intro w hSw
              (try dsimp only at hSw)
              go_simp
              try with_reducible rfl
            try simp only [Act.put, List.setIfInBounds_toArray, List.set_cons_zero, List.set_cons_succ]
            refine wpAnyH_take (i := 14) (oi := { dst := some 29, op := Op.load 2 (Operand.tmp 28), type := 2, pos := "l06_jar.go:86", after := #[{ on := 13, ground := Ground.data }, { on := 6, ground := Ground.guard }], guard := some (6, true) }) (v := ?vd14) rfl (by kernel_rfl) (by kernel_rfl) (by kernel_rfl) (fun _ _ _ h => h) (Or.inl ⟨by rfl, ?hyd14⟩) (by assumption) ?restd14
            case hyd14 =>
              intro w hSw
              (try dsimp only at hSw)
              go_simp
              try with_reducible rfl
            try simp only [Act.put, List.setIfInBounds_toArray, List.set_cons_zero, List.set_cons_succ]
            refine wpAnyH_take (i := 15) (oi := { dst := some 30, op := Op.binOp BinOp.geq 2 (Operand.tmp 27) (Operand.tmp 29) 2, type := 4, pos := "l06_jar.go:86", after := #[{ on := 12, ground := Ground.data }, { on := 14, ground := Ground.data }, { on := 6, ground := Ground.guard }], guard := some (6, true) }) (v := ?vd15) rfl (by kernel_rfl) (by kernel_rfl) (by kernel_rfl) (fun _ _ _ h => h) (Or.inl ⟨by rfl, ?hyd15⟩) (by assumption) ?restd15
            case hyd15 =>
              intro w hSw
              (try dsimp only at hSw)
              go_simp
              try with_reducible rfl
            try simp only [Act.put, List.setIfInBounds_toArray, List.set_cons_zero, List.set_cons_succ]
            refine wpAnyH_take (i := 16) (oi := { dst := some 31, op := Op.pick (Operand.tmp 21) (Operand.tmp 30) (Operand.const (Value.bool false)), type := 4, pos := "l06_jar.go:86", after := #[{ on := 6, ground := Ground.data }, { on := 15, ground := Ground.data }, { on := 3, ground := Ground.guard }], guard := some (3, false) }) (v := ?vd16) rfl (by kernel_rfl) (by kernel_rfl) (by kernel_rfl) (fun _ _ _ h => h) (Or.inl ⟨by rfl, ?hyd16⟩) (by assumption) ?restd16
            case hyd16 =>
              intro w hSw
              (try dsimp only at hSw)
              go_simp
              try with_reducible rfl
            try simp only [Act.put, List.setIfInBounds_toArray, List.set_cons_zero, List.set_cons_succ]
            refine wpAnyH_take (i := 17) (oi := { dst := some 32, op := Op.pick (Operand.tmp 18) (Operand.const (Value.bool true)) (Operand.tmp 31), type := 4, pos := "l06_jar.go:86", after := #[{ on := 3, ground := Ground.data }, { on := 16, ground := Ground.data }], guard := none }) (v := ?vd17) rfl (by kernel_rfl) (by kernel_rfl) (by kernel_rfl) (fun _ _ _ h => h) (Or.inl ⟨by rfl, ?hyd17⟩) (by assumption) ?restd17
            case hyd17 =>
              intro w hSw
              (try dsimp only at hSw)
              go_simp
              try with_reducible rfl
            try simp only [Act.put, List.setIfInBounds_toArray, List.set_cons_zero, List.set_cons_succ]
            refine wpAnyH_done (by kernel_rfl) ?_ _
            go_wp2
            go_ret
            exact ⟨ret_bool HQ.out.symm, (HBW.out.trans (Below.drew (Below.refl _ _))).trans (hb2.mono HBW.out.size)⟩
    · have HQ : Hid (R = true) := HY.out (fun i hi => HR.out i (by omega))
      go_wp2
      go_ret
      exact ⟨ret_bool HQ.out.symm, HB.out⟩
end Go.Proofs.YtaccgciopmclhaaGreatDoor

/- The walk of cmp.Or at int. -/
namespace Go.Proofs.YtaccgciopmclhaaGreatDoor
open Go.RowKit

set_option maxRecDepth 10000 in
set_option maxHeartbeats 1000000 in
theorem orInt_any (a b : Int) (g : Nat) (w : World) (h0 : w.cell? ⟨g, 0, none⟩ = some (.int .i64 a)) (h1 : w.cell? ⟨g, 1, none⟩ = some (.int .i64 b)) : Calls Tryz.prog 147 #[.slice (some ⟨g, 0, none⟩) 2 2] w fun e w' => e = .returned (.int .i64 (if a = 0 then b else a)) ∧ w' = w := by
  have HO : Hid ((if a = 0 then b else a) = if a = 0 then b else a) := rfl
  generalize hR : (if a = 0 then b else a) = R at *
  have HR : Hid ((if a = 0 then b else a) = R) := hR
  clear hR HO
  go_enter Tryz.func147, Tryz.ntmps147
  go_wp2
  go_loopw [8] (fun i wr => ∃ k : Nat, k ≤ 2 ∧ i = .int .i64 k ∧ wr = w ∧ (0 < k → a = 0) ∧ (1 < k → b = 0)) (fun i _ => 2 - (intOf i).toNat)
  case atStart => exact ⟨0, by omega, rfl, rfl, fun h => absurd h (by omega), fun h => absurd h (by omega)⟩
  case round =>
    obtain ⟨k, hk, rfl, rfl, ha, hb⟩ := hrel
    match k, hk with
    | 0, _ =>
      clear ha hb
      by_cases e : a = 0
      · subst e
        go_wp2
        go_roundw
        case rel => exact ⟨1, by omega, by first | rfl | go_num, (by first | rfl | trivial), (fun _ => by first | rfl | trivial), fun h => absurd h (by omega)⟩
        case measure => simp [intOf]
      · have q : (a != 0) = true := by rw [bne_iff_ne]; exact e
        have HR1 : Hid (R = a) := by show _ = _; rw [← HR.out, if_neg e]
        go_wp2
        go_ret
        exact ⟨by rw [HR1.out]; rfl, rfl⟩
    | 1, _ =>
      obtain rfl := ha (by omega)
      have HR1 : Hid (R = b) := by show _ = _; rw [← HR.out, if_pos rfl]
      clear ha hb
      by_cases e : b = 0
      · subst e
        go_wp2
        go_roundw
        case rel => exact ⟨2, by omega, by first | rfl | go_num, (by first | rfl | trivial), (fun _ => by first | rfl | trivial), (fun _ => by first | rfl | trivial)⟩
        case measure => simp [intOf]
      · have q : (b != 0) = true := by rw [bne_iff_ne]; exact e
        go_wp2
        go_ret
        exact ⟨by rw [HR1.out]; rfl, rfl⟩
    | 2, _ =>
      obtain rfl := ha (by omega)
      obtain rfl := hb (by omega)
      have HR1 : Hid (R = 0) := by show _ = _; rw [← HR.out, if_pos rfl]
      clear ha hb
      go_wp2
      go_ret
      exact ⟨by rw [HR1.out]; rfl, rfl⟩
end Go.Proofs.YtaccgciopmclhaaGreatDoor

/- The walks of the program's small functions of entries: what is right, how many bytes, which comes first. -/
namespace Go.Proofs.YtaccgciopmclhaaGreatDoor
open Go.RowKit

theorem empty_key (t : ByteArray) (h : 1 ≤ t.size) : (t.toList == []) = false := by
  rw [beq_eq_false_iff_ne, Lib.toList_data]
  intro e
  have : t.data.toList.length = 0 := by rw [e]; rfl
  have e2 : t.size = t.data.toList.length := by rw [Array.length_toList]; rfl
  omega
theorem empty_key0 (t : ByteArray) (h : ¬ 1 ≤ t.size) : (t.toList == []) = true := by
  rw [beq_iff_eq, Lib.toList_data]
  have e2 : t.size = t.data.toList.length := by rw [Array.length_toList]; rfl
  exact List.length_eq_zero_iff.1 (by omega)
set_option maxRecDepth 10000 in
set_option maxHeartbeats 1000000 in
theorem roomKey_any (t : ByteArray) (w : World) : Calls Tryz.prog 144 #[.string t] w fun e w' => e = .returned (.bool (keyB t)) ∧ w' = w := by
  have HK : Hid (keyB t = (decide (1 ≤ t.size) && decide (t.size ≤ 200))) := rfl
  generalize keyB t = R at *
  by_cases h1 : 1 ≤ t.size
  · have q1 := empty_key t h1
    by_cases h2 : t.size ≤ 200
    · have q2 : decide ((t.size : Int) ≤ (200 : Int)) = true := by rw [decide_eq_true_iff]; omega
      have HR : Hid (R = true) := by show _ = _; rw [HK.out, decide_eq_true h1, decide_eq_true h2]; rfl
      go_enter Tryz.func144, Tryz.ntmps144
      go_wp2
      go_ret
      exact ⟨ret_bool HR.out.symm, rfl⟩
    · have q2 : decide ((t.size : Int) ≤ (200 : Int)) = false := by rw [decide_eq_false_iff_not]; omega
      have HR : Hid (R = false) := by show _ = _; rw [HK.out, decide_eq_false h2, Bool.and_false]
      go_enter Tryz.func144, Tryz.ntmps144
      go_wp2
      go_ret
      exact ⟨ret_bool HR.out.symm, rfl⟩
  · have q1 := empty_key0 t h1
    have HR : Hid (R = false) := by show _ = _; rw [HK.out, decide_eq_false h1]; rfl
    go_enter Tryz.func144, Tryz.ntmps144
    go_wp2
    go_ret
    exact ⟨ret_bool HR.out.symm, rfl⟩
set_option maxRecDepth 10000 in
set_option maxHeartbeats 1000000 in
theorem roomValue_any (t : ByteArray) (w : World) : Calls Tryz.prog 146 #[.string t] w fun e w' => e = .returned (.bool (valB t)) ∧ w' = w := by
  have HK : Hid (valB t = decide (t.size ≤ 40)) := rfl
  generalize valB t = R at *
  by_cases h2 : t.size ≤ 40
  · have q2 : decide ((t.size : Int) ≤ (40 : Int)) = true := by rw [decide_eq_true_iff]; omega
    have HR : Hid (R = true) := by show _ = _; rw [HK.out, decide_eq_true h2]
    go_enter Tryz.func146, Tryz.ntmps146
    go_wp2
    go_ret
    exact ⟨ret_bool HR.out.symm, rfl⟩
  · have q2 : decide ((t.size : Int) ≤ (40 : Int)) = false := by rw [decide_eq_false_iff_not]; omega
    have HR : Hid (R = false) := by show _ = _; rw [HK.out, decide_eq_false h2]
    go_enter Tryz.func146, Tryz.ntmps146
    go_wp2
    go_ret
    exact ⟨ret_bool HR.out.symm, rfl⟩
set_option maxRecDepth 10000 in
set_option maxHeartbeats 1000000 in
theorem entryRight_any (e : En) (w : World) (hs : e.na.size ≤ 1048576) : Calls Tryz.prog 98 #[enV e] w fun r w' => r = .returned (.bool (enB e)) ∧ Below w.heap.size w w' := by
  obtain ⟨ke, na, va⟩ := e
  unfold enV
  dsimp only at *
  have HE : Hid (enB ⟨ke, na, va⟩ = (keyB ke && nameB na && valB va)) := rfl
  generalize enB ⟨ke, na, va⟩ = R at *
  have K1 : Hid (∀ W, Calls Tryz.prog 144 #[.string ke] W fun e w' => e = .returned (.bool (keyB ke)) ∧ w' = W) := fun W => roomKey_any ke W
  have K2 : Hid (∀ W, Calls Tryz.prog 145 #[.string na] W fun e w' => e = .returned (.bool (nameB na)) ∧ w' = W) := fun W => implName_any na W (by unfold maxLen; omega)
  have K3 : Hid (∀ W, Calls Tryz.prog 146 #[.string va] W fun e w' => e = .returned (.bool (valB va)) ∧ w' = W) := fun W => roomValue_any va W
  have HB : Hid (Below w.heap.size w (w.alloc (.cells #[.string ke, .string na, .string va] 127))) := (Below.refl _ _).alloc (Nat.le_refl _) _
  clear hs
  generalize keyB ke = b1 at *
  generalize nameB na = b2 at *
  generalize valB va = b3 at *
  go_enter Tryz.func98, Tryz.ntmps98
  go_wp2_with fail
  refine (K1.out _).mono ?_
  rintro e w1 ⟨rfl, rfl⟩
  cases b1 with
  | false =>
    have HR : Hid (R = false) := by show _ = _; rw [HE.out]; rfl
    go_wp2
    go_ret
    exact ⟨ret_bool HR.out.symm, HB.out⟩
  | true =>
  go_wp2_with fail
  refine (K2.out _).mono ?_
  rintro e w1 ⟨rfl, rfl⟩
  cases b2 with
  | false =>
    have HR : Hid (R = false) := by show _ = _; rw [HE.out]; rfl
    go_wp2
    go_ret
    exact ⟨ret_bool HR.out.symm, HB.out⟩
  | true =>
  go_wp2_with fail
  refine (K3.out _).mono ?_
  rintro e w1 ⟨rfl, rfl⟩
  have HR : Hid (R = b3) := by show _ = _; rw [HE.out]; rfl
  go_wp2
  go_ret
  exact ⟨ret_bool HR.out.symm, HB.out⟩
set_option maxRecDepth 10000 in
set_option maxHeartbeats 1000000 in
theorem entryBytes_any (e : En) (w : World) (hs : e.na.size ≤ 1048576 ∧ e.va.size ≤ 1048576) : Calls Tryz.prog 100 #[enV e] w fun r w' => r = .returned (.int .i64 (enN e : Int)) ∧ Below w.heap.size w w' := by
  obtain ⟨ke, na, va⟩ := e
  unfold enV enN
  dsimp only at *
  obtain ⟨h1, h2⟩ := hs
  go_enter Tryz.func100, Tryz.ntmps100
  go_wp2
  go_ret
  exact ⟨by first | rfl | go_num, (Below.refl _ _).alloc (Nat.le_refl _) _⟩
theorem grow_one (w : World) (o : Obj) : w.alloc o = Go.Sort.grow w #[o] := by unfold Go.Sort.grow World.alloc; rw [Array.append_singleton]
theorem cmpStr_any (a b : ByteArray) (w : World) : Calls Tryz.prog 148 #[.string a, .string b] w fun e w' => e = .returned (.int .i64 (Lib.compareBytes a.data.toList b.data.toList)) ∧ w' = w :=
  Any.strings_Compare { Tryz.lays106 with } a b w
open Go.Sort in
set_option maxRecDepth 10000 in
set_option maxHeartbeats 1000000 in
theorem entryOrder_any (a b : En) (w : World) : Calls Tryz.prog 99 #[enV a, enV b] w fun e w' => e = .returned (.int .i64 (ordE a b)) ∧ ∃ q os, w' = grow (w.drewN q) os := by
  have HN : Hid (ordE a b = if Lib.compareBytes a.ke.data.toList b.ke.data.toList = 0 then Lib.compareBytes a.na.data.toList b.na.data.toList else Lib.compareBytes a.ke.data.toList b.ke.data.toList) := rfl
  generalize ordE a b = R at *
  obtain ⟨ke, na, va⟩ := a
  obtain ⟨ke', na', va'⟩ := b
  unfold enV
  dsimp only at HN ⊢
  have K1 : Hid (∀ W, Calls Tryz.prog 148 #[.string ke, .string ke'] W fun e w' => e = .returned (.int .i64 (Lib.compareBytes ke.data.toList ke'.data.toList)) ∧ w' = W) := fun W => cmpStr_any _ _ W
  have K2 : Hid (∀ W, Calls Tryz.prog 148 #[.string na, .string na'] W fun e w' => e = .returned (.int .i64 (Lib.compareBytes na.data.toList na'.data.toList)) ∧ w' = W) := fun W => cmpStr_any _ _ W
  generalize Lib.compareBytes ke.data.toList ke'.data.toList = o1 at *
  generalize Lib.compareBytes na.data.toList na'.data.toList = o2 at *
  have K3 : Hid (∀ (g : Nat) (W : World), W.cell? ⟨g, 0, none⟩ = some (.int .i64 o1) → W.cell? ⟨g, 1, none⟩ = some (.int .i64 o2) → Calls Tryz.prog 147 #[.slice (some ⟨g, 0, none⟩) 2 2] W fun e w' => e = .returned (.int .i64 R) ∧ w' = W) := fun g W a b => by rw [HN.out]; exact orInt_any o1 o2 g W a b
  clear HN
  obtain ⟨W0, hW⟩ : ∃ W0, W0 = (w.alloc (.cells #[.string ke, .string na, .string va] 127)).alloc (.cells #[.string ke', .string na', .string va'] 127) := ⟨_, rfl⟩
  have hW0 : Hid (W0 = (w.alloc (.cells #[.string ke, .string na, .string va] 127)).alloc (.cells #[.string ke', .string na', .string va'] 127)) := hW
  have HB : Hid (∃ os, W0 = grow w os) := ⟨#[.cells #[.string ke, .string na, .string va] 127, .cells #[.string ke', .string na', .string va'] 127], by rw [hW, grow_one, grow_one, grow_grow]; rfl⟩
  have c4 : W0.cell? ⟨w.heap.size, 0, none⟩ = some (.string ke) := by rw [hW]; simp
  have c9 : W0.cell? ⟨w.heap.size, 1, none⟩ = some (.string na) := by rw [hW]; simp
  have d4 : W0.cell? ⟨w.heap.size + 1, 0, none⟩ = some (.string ke') := by rw [hW]; exact (World.cell?_alloc_at _ _ _ _ (by simp)).trans rfl
  have d9 : W0.cell? ⟨w.heap.size + 1, 1, none⟩ = some (.string na') := by rw [hW]; exact (World.cell?_alloc_at _ _ _ _ (by simp)).trans rfl
  have z0 : w.heap.size + 1 < W0.heap.size := by rw [hW]; simp
  clear hW
  go_enter Tryz.func99, Tryz.ntmps99
  go_upto_region 1 with fail
  rw [← hW0.out]
  clear hW0
  generalize w.heap.size = b at *
  go_region_held3 (fun w' => w'.cell? ⟨b, 0, none⟩ = some (.string ke) ∧ w'.cell? ⟨b, 1, none⟩ = some (.string na) ∧ w'.cell? ⟨b + 1, 0, none⟩ = some (.string ke') ∧ w'.cell? ⟨b + 1, 1, none⟩ = some (.string na')) (go_keep)
    (first | (go_at_call 148; refine (K1.out _).mono ?_; rintro e w1 ⟨rfl, rfl⟩) | (go_at_call 148; refine (K2.out _).mono ?_; rintro e w2 ⟨rfl, rfl⟩) | (go_at_call 147; refine (K3.out _ _ (by simp) (by simp)).mono ?_; rintro e w3 ⟨rfl, rfl⟩))
  all_goals go_wp2
  all_goals go_ret
  all_goals
    refine ⟨rfl, 1, ?_⟩
    obtain ⟨os, e⟩ := HB.out
    exact ⟨os ++ #[_], by rw [e, grow_one, grow_grow]; rfl⟩
theorem entryOrder_below (a b : En) (w : World) : Calls Tryz.prog 99 #[enV a, enV b] w fun e w' => e = .returned (.int .i64 (ordE a b)) ∧ Below w.heap.size w w' := by
  refine (entryOrder_any a b w).mono ?_
  rintro e w' ⟨rfl, q, os, rfl⟩
  refine ⟨rfl, rfl, rfl, rfl, ?_, ?_⟩
  · simp [Go.Sort.grow, World.drewN]
  · intro k hk
    simp only [Go.Sort.grow, World.drewN]
    rw [Array.getElem?_append_left hk]
end Go.Proofs.YtaccgciopmclhaaGreatDoor
