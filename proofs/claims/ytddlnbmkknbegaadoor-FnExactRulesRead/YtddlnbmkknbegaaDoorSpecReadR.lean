/- The walk of the specification's RulesRead. -/
import Derived.Test.YtddlnbmkknbegaaDoorReadBack
namespace Go.Proofs.YtddlnbmkknbegaaDoor
open Go.RowKit

set_option maxRecDepth 10000 in
set_option maxHeartbeats 4000000 in
theorem specReadR_any (s : ByteArray) (w : World) :
    Calls Tryd.prog 25 #[.string s] w fun e w' => ∃ v, e = .returned v ∧ SliceS w' w.heap.size v (readR s).length (atL (readR s)) ∧ Below w.heap.size w w' := by
  obtain ⟨i0, hi, hz0, hz1, hz2⟩ := info_parts infoStr
  by_cases h8 : 8000 < s.size
  · have HR : Hid (readR s = []) := readR_no h8
    go_enter Tryd.func25, Tryd.ntmps25
    go_wp2
    go_ret
    exact ⟨_, rfl, by rw [HR.out]; exact ⟨_, _, rfl, fun h => absurd h (by simp)⟩, (Below.refl _ _).alloc (Nat.le_refl _) _⟩
  have q8 : decide ((8000 : Int) < (s.size : Int)) = false := by rw [decide_eq_false_iff_not]; omega
  have HE : Hid (readR s = (putsTo (splitB s 10) (splitB s 10).length).take 20) := readR_yes h8
  have HC : Hid (∀ W, Calls Tryd.prog 48 #[.string s, .int .u8 10] W fun e w' => ∃ v, e = .returned v ∧ w'.ownsRow W.heap.size 9 1 v (splitB s 10).length (strCells (splitB s 10)) ∧ Below W.heap.size W w') := fun W => split_any s 10 W (by omega)
  have HZ : Hid (∀ i, i < (splitB s 10).length → (atL (splitB s 10) i).size ≤ 1048576) := fun i hi => by
    have e : atL (splitB s 10) i = (splitB s 10)[i] := by simp [atL, hi]
    rw [e]
    have := splitB_small s 10 _ (List.getElem_mem hi)
    omega
  have hlen := splitB_len s 10
  generalize readR s = RR at *
  generalize splitB s 10 = L at *
  go_enter Tryd.func25, Tryd.ntmps25
  go_wp2_with fail
  refine (HC.out _).mono ?_
  rintro e w1 ⟨vL, rfl, ho, hb1⟩
  have B1 : Hid (Below w.heap.size w w1) := ((Below.refl _ _).alloc (Nat.le_refl _) _).trans (hb1.mono (by simp))
  have O1 : Hid (w1.ownsRow w.heap.size 9 1 (.slice (some ⟨w.heap.size, 0, none⟩) 0 0) 0 (strCells [])) := by
    have h := World.ownsRow_made (e := 9) (size := 1) w #[] 0 (Nat.le_refl _) (Nat.zero_le _) rfl
    exact own_below h hb1
  have S1 : Hid (SliceS w1 w.heap.size vL L.length (atL L)) := slice_base (slice_of_own ho) (by simp)
  clear ho hb1 HC
  obtain ⟨pL, cL, rfl, -⟩ := S1.out
  go_wp2
  go_loopw [3, 5] (fun v i wr => ∃ k : Nat, k ≤ L.length ∧ i = .int .i64 k ∧ Hid (wr.ownsRow w.heap.size 9 1 v (putsTo L k).length (strCells (putsTo L k))) ∧ Hid (¬ v = .slice none 0 0) ∧ Hid (SliceS wr w.heap.size (.slice pL L.length cL) L.length (atL L)) ∧ Hid (Below w.heap.size w wr)) (fun _ i _ => L.length - (intOf i).toNat)
  case atStart => exact ⟨0, Nat.zero_le _, rfl, O1, (by simp : ¬ _), S1, B1⟩
  case round =>
    obtain ⟨k, hk, rfl, HO, HN, HS, HB⟩ := hrel
    have hpl := putsTo_len L k
    by_cases hlt : k < L.length
    · obtain ⟨p', c', e', hg'⟩ := HS.out
      obtain ⟨g, rfl, -, hgw, hc⟩ := hg' (by omega)
      obtain ⟨rfl, rfl⟩ : pL = some ⟨g, 0, none⟩ ∧ cL = c' := by injection e' with a b c; exact ⟨a, c⟩
      have hck := (hc k hlt).1
      have HCK : Hid (∀ W, Below wr.heap.size wr W → W.cell? ⟨g, k, none⟩ = some (.string (atL L k))) := fun W hb => by rw [(bcell hb).1 _ _ hgw]; exact (hc k hlt).1
      have k0 : (0 : Int) ≤ k := by omega
      have k1 : (k : Int) < L.length := by omega
      have KR0 := specRule_any (atL L k) wr (HZ.out k hlt)
      clear e' hg' hc
      cases hr : ruleB (atL L k) with
      | false =>
        have HP : Hid (putsTo L (k + 1) = putsTo L k) := by show _ = _; rw [putsTo, if_neg (by rw [hr]; decide)]
        rw [hr] at KR0
        have KR : Hid (Calls Tryd.prog 19 #[.string (atL L k)] wr fun e w' => e = .returned (.bool false) ∧ Below wr.heap.size wr w') := KR0
        clear KR0 hr
        generalize atL L k = t at *
        go_wp2_with (go_at_call 19; refine KR.out.mono ?_; rintro e w2 ⟨rfl, hb2⟩)
        go_roundw
        case rel => exact ⟨k + 1, by omega, by go_num, by rw [HP.out]; exact own_below HO.out hb2, HN, HS.out.below hb2, HB.out.trans (hb2.mono HB.out.size)⟩
        case measure => simp [intOf]; omega
      | true =>
        have HP : Hid (putsTo L (k + 1) = putL (putsTo L k) (atL L k)) := by show _ = _; rw [putsTo, if_pos hr]
        rw [hr] at KR0
        have KR : Hid (Calls Tryd.prog 19 #[.string (atL L k)] wr fun e w' => e = .returned (.bool true) ∧ Below wr.heap.size wr w') := KR0
        have KP : Hid (∀ W, Below wr.heap.size wr W → Calls Tryd.prog 49 #[u3, .string (atL L k)] W fun e w' => ∃ v', e = .returned v' ∧ w'.ownsRow w.heap.size 9 1 v' (putL (putsTo L k) (atL L k)).length (strCells (putL (putsTo L k) (atL L k))) ∧ (¬ v' = .slice none 0 0) ∧ Below W.heap.size W w') :=
          fun W hb => specPut_any u3 w.heap.size (putsTo L k) (atL L k) W (Nat.le_trans HB.out.size hb.size) (own_below HO.out hb) HN.out (by omega)
        clear KR0 hr
        generalize hx : atL L k = t at *
        have HX : Hid (atL L k = t) := hx
        clear hx
        go_wp2_with (first | (go_at_call 19; refine KR.out.mono ?_; rintro e w2 ⟨rfl, hb2⟩; have hck2 := HCK.out w2 hb2) | (go_at_call 49; refine (KP.out _ hb2).mono ?_; rintro e w3 ⟨v3, rfl, ho3, hn3, hb3⟩))
        go_roundw
        case rel =>
          refine ⟨k + 1, by omega, by go_num, by rw [HP.out]; exact ho3, hn3, (HS.out.below hb2).below hb3, ?_⟩
          exact (HB.out.trans (hb2.mono HB.out.size)).trans (hb3.mono (Nat.le_trans HB.out.size hb2.size))
        case measure => simp [intOf]; omega
    · obtain rfl : k = L.length := by omega
      generalize putsTo L L.length = P at *
      have hPs := slice_of_own HO.out
      obtain ⟨hl0, ⟨rfl, h0⟩ | ⟨g, cap, cur, rfl, hbg, hh, hcap, -, -, -⟩⟩ := HO.out
      · exact absurd rfl HN.out
      have hgw : g < wr.heap.size := (Array.getElem?_eq_some_iff.mp hh).1
      obtain ⟨p', c', e', hg'⟩ := hPs
      have HG : Hid (∀ j, j < P.length → wr.cell? ⟨g, j, none⟩ = some (.string (atL P j)) ∧ wr.frozen? ⟨g, j, none⟩ = false) := fun j hj => by
        obtain ⟨g', rfl, -, -, hc⟩ := hg' (by omega)
        obtain rfl : g = g' := by injection e' with a; injection a with a; injection a
        exact hc j hj
      clear hl0 hh e' hg'
      by_cases h20 : 20 < P.length
      · have hb0 : Below wr.heap.size wr (wr.alloc (.cells #[] 9)) := (Below.refl _ _).alloc (Nat.le_refl _) _
        have c20 : (20 : Int) ≤ cap := by omega
        have q20 : decide ((20 : Int) < (P.length : Int)) = true := by rw [decide_eq_true_iff]; omega
        have hlP : P.length ≤ 8001 := by omega
        go_wp2_with (at_builtin; go_must (refine wpList_append_own _ rfl _ _ 23 rfl wr.heap.size 9 i0 (.string ⟨#[]⟩) 1 16 Tryd.underlying23 hi hz0 hz1 hz2 rfl (by decide) _ _ _ rfl (World.ownsRow_made wr #[] 0 (Nat.le_refl _) (Nat.zero_le _) rfl) ⟨g, 0, none⟩ 20 _ (strCells (P.take 20)) rfl (by simp [strCells]; omega) (news_to hb0 hgw HG.out) strCells_one (by unfold maxLen; omega) (by omega) (by simp) ?_))
        intro v1 w1 ho1 hg1 hn1
        have hb1 : Below wr.heap.size wr w1 := hb0.grown hg1 (by simp) (fun j hj => by simp [Value.ownBlock] at hj; omega)
        have G1 : Hid (SliceS w1 w.heap.size v1 RR.length (atL RR)) := by
          show SliceS _ _ _ _ _
          have e1 : RR = P.take 20 := HE.out
          have e2 : RR.length = 20 := by rw [e1]; simp; omega
          have h : w1.ownsRow wr.heap.size 9 1 v1 20 (strCells (P.take 20)) := by simpa using ho1
          rw [← e1] at h
          rw [← e2] at h
          exact slice_base (slice_of_own h) HB.out.size
        have G2 : Hid (Below w.heap.size w w1) := HB.out.trans (hb1.mono HB.out.size)
        clear ho1 hg1 hn1 hb1
        go_wp2
        go_ret
        exact ⟨_, rfl, G1.out, G2.out⟩
      · have q20 : decide ((20 : Int) < (P.length : Int)) = false := by rw [decide_eq_false_iff_not]; omega
        have G1 : Hid (SliceS wr w.heap.size (.slice (some ⟨g, 0, none⟩) P.length cap) RR.length (atL RR)) := by
          show SliceS _ _ _ _ _
          have e1 : RR = P := by rw [HE.out, List.take_of_length_le (by omega)]
          rw [e1]
          exact ⟨_, _, rfl, fun _ => ⟨g, rfl, hbg, hgw, HG.out⟩⟩
        go_wp2
        go_ret
        exact ⟨_, rfl, G1.out, HB.out⟩
end Go.Proofs.YtddlnbmkknbegaaDoor
