/- 17 of this claim's texts, one behind the other. -/
import Derived.Test.YtnpaekjiafaahaaGreatDoorPart6
import Derived.Test.YtnpaekjiafaahaaGreatDoorPart2
import Derived.Deep.RegionHeld3
import Derived.RangeFuncNested
import Derived.RangeFuncBound
import Derived.RangeFuncCalls
import Derived.RangeFuncLeaves
import Derived.Shelf.Abstract
import Derived.Shelf.RegionOpen
import Derived.WalkKit
import Derived.OwnWalkIn
import Derived.TacticsInMore
import Derived.LoopNIn
import Derived.LoopIn
import Derived.Maps.OwnIn
import Derived.Test.YtnpaekjiafaahaaGreatDoorPart1
import Derived.Laws.AppendOwn
import Derived.Test.YtnpaekjiafaahaaGreatDoorPart3
import Derived.Test.YtnpaekjiafaahaaGreatDoorPart5
import Derived.Test.YtnpaekjiafaahaaGreatDoorPart4
import Derived.ProofKit
import Derived.OpenShut
import Derived.Deep.Strs
import Derived.Handed
import Derived.Lay
import Derived.MakeChecks
import Derived.Lib.LaidTab
import Derived.Stop.LaidErr
/- The walks of the specification's l09Key and FrameKey. Written by keys9.py. -/
namespace Go.Proofs.YtnpaekjiafaahaaGreatDoor
open Go.RowKit

set_option maxRecDepth 10000 in
set_option maxHeartbeats 8000000 in
theorem specKey9_any (v rv : Value) (L : List Fr) (B Br n : Nat) (f : Nat → ByteArray) (id : Int) (w : World) (hs : SliceF w B v L) (hn : L.length ≤ 1048576) (hr : SliceS w Br rv n f) (l1 : n ≤ 1048576) (hL : framesB L = true) (hR : rulesB n f = true) (hh : hereF L id = true) :
    Calls Tryz.prog 73 #[v, rv, .int .i64 id] w fun e w' => e = .returned (.string (keyF n f L id)) ∧ Below w.heap.size w w' := by
  have KA : Hid (∀ W, Below w.heap.size w W → Calls Tryz.prog 63 #[v, .int .i64 id] W fun e w' => e = .returned (.int .i64 (whF L id)) ∧ w' = W) := fun W hb => specAt_any v L B id W (hs.below hb) hn
  have KO : Hid (∀ y W, Calls Tryz.prog 75 #[frV y] W fun e w' => e = .returned (ogV (ogF y)) ∧ Below W.heap.size W w') := fun y W => specOrg9_any y W
  obtain ⟨k0, hk0, ew, eg, ei⟩ := here_wh hh
  have hob := ogF_right hL hk0
  have KT0 : ∀ W, Calls Tryz.prog 107 #[ogV (ogF (atF L k0))] W fun e w' => e = .returned (.string (ogT (ogF (atF L k0)))) ∧ Below W.heap.size W w' := fun W => by
    have h := specL02Origin_any (ogF (atF L k0)).sc (ogF (atF L k0)).ho (ogF (atF L k0)).po (ogF (atF L k0)).no W hob
    have e : ogT (ogF (atF L k0)) = if (ogF (atF L k0)).no = 0 then placeT (ogF (atF L k0)).sc (ogF (atF L k0)).ho (ogF (atF L k0)).po else ⟨#[110, 117, 108, 108, 35]⟩ ++ decB (ogF (atF L k0)).no := by
      unfold ogT originT; rw [if_pos hob]
    rw [e]; exact h
  have hos : (ogT (ogF (atF L k0))).size ≤ 300 := originT_size hob
  have KP : Hid (∀ W, Below w.heap.size w W → Calls Tryz.prog 74 #[v, .int .i64 id] W fun e w' => (∃ k : Nat, e = .returned (.int .i64 (k : Int)) ∧ k < L.length ∧ atF L k = topFr L id) ∧ w' = W) := fun W hb => specTop9_any v L B id W (hs.below hb) hn hL hh
  have htu := topFr_u hL hh
  unfold uF at htu
  have KS0 : ∀ W, Below w.heap.size w W → Calls Tryz.prog 108 #[rv, .agg #[.string (topFr L id).sc, .string (topFr L id).ho, .int .i64 (topFr L id).po, .string (topFr L id).pt]] W fun e w' => e = .returned (.string (siteT n f (topFr L id).sc (topFr L id).ho)) ∧ Below W.heap.size W w' := fun W hb => specSite_any rv n Br f _ _ (topFr L id).pt (topFr L id).po W (hr.below hb) l1 (rulesB_parts hR).2 (urlB_parts htu).1 (urlB_parts htu).2.1
  have hss : (siteT n f (topFr L id).sc (topFr L id).ho).size ≤ 30000 := siteT_size (urlB_parts htu).1 (urlB_parts htu).2.1
  have K30 : ∀ W, Below w.heap.size w W → Calls Tryz.prog 79 #[v, rv, .int .i64 id] W fun e w' => e = .returned (.bool (thirdF n f L id)) ∧ Below W.heap.size W w' := fun W hb => by
    have h := specThird9_any v rv L B Br n f id W (hs.below hb) hn (hr.below hb) l1 hL hR hh
    have e : thirdF n f L id = (wayF L id).any (strB n f (getF L id)) := by unfold thirdF; rw [hL, hR, hh]; simp
    rw [e]; exact h
  have HE : Hid (keyF n f L id = if thirdF n f L id = true then (ogT (ogF (atF L k0)) ++ ⟨#[94]⟩ ++ siteT n f (topFr L id).sc (topFr L id).ho) ++ ⟨#[33]⟩ else ogT (ogF (atF L k0)) ++ ⟨#[94]⟩ ++ siteT n f (topFr L id).sc (topFr L id).ho) := by
    show _ = _
    unfold keyF keyT
    rw [hL, hR, hh, eg]; rfl
  obtain ⟨⟨p, cap, rfl, hg⟩, -⟩ := hs
  obtain ⟨g, rfl, -, hgw, hc⟩ := hg (by omega)
  have HC : Hid (∀ W, Below w.heap.size w W → ∀ j, j < L.length → ∀ o, o < 9 → W.cell? ⟨g, j * 9 + o, none⟩ = some (frC (atF L j) o)) := fun W hb j hj o ho => (hb.cell (p := ⟨g, j * 9 + o, none⟩) hgw).trans (hc j hj o ho).1
  have hc0 := HC.out w (Below.refl _ _) k0 hk0
  have c0 : w.cell? ⟨g, k0 * 9, none⟩ = some (.int .i64 (atF L k0).id) := hc0 0 (by omega)
  have c1 : w.cell? ⟨g, k0 * 9 + 1, none⟩ = some (.int .i64 (atF L k0).pa) := hc0 1 (by omega)
  have c2 : w.cell? ⟨g, k0 * 9 + 2, none⟩ = some (.string (atF L k0).sc) := hc0 2 (by omega)
  have c3 : w.cell? ⟨g, k0 * 9 + 3, none⟩ = some (.string (atF L k0).ho) := hc0 3 (by omega)
  have c4 : w.cell? ⟨g, k0 * 9 + 4, none⟩ = some (.int .i64 (atF L k0).po) := hc0 4 (by omega)
  have c5 : w.cell? ⟨g, k0 * 9 + 5, none⟩ = some (.string (atF L k0).pt) := hc0 5 (by omega)
  have c6 : w.cell? ⟨g, k0 * 9 + 6, none⟩ = some (.bool (atF L k0).sb) := hc0 6 (by omega)
  have c7 : w.cell? ⟨g, k0 * 9 + 7, none⟩ = some (.bool (atF L k0).fl) := hc0 7 (by omega)
  have c8 : w.cell? ⟨g, k0 * 9 + 8, none⟩ = some (.int .i64 (atF L k0).tc) := hc0 8 (by omega)
  have KO0 := KO.out (atF L k0)
  have i0 : (0 : Int) ≤ k0 := by omega
  have i1 : (k0 : Int) < L.length := by omega
  clear hg hc hgw hc0 eg ei hL hR hh htu hob hr KO
  generalize keyF n f L id = R at *
  generalize thirdF n f L id = th at *
  generalize hTF : topFr L id = tf at *
  generalize siteT n f tf.sc tf.ho = S at *
  generalize ogT (ogF (atF L k0)) = O at *
  generalize ogF (atF L k0) = og at *
  generalize atF L k0 = y at *
  obtain ⟨yid, ypa, ysc, yho, ypo, ypt, ysb, yfl, ytc⟩ := y
  obtain ⟨osc, oho, opo, ono⟩ := og
  obtain ⟨tid, tpa, tsc, tho, tpo, tpt, tsb, tfl, ttc⟩ := tf
  unfold frV ogV at *
  dsimp only at *
  have KO1 : Hid (∀ W, Calls Tryz.prog 75 #[.agg #[.int .i64 yid, .int .i64 ypa, .string ysc, .string yho, .int .i64 ypo, .string ypt, .bool ysb, .bool yfl, .int .i64 ytc]] W fun e w' => e = .returned (.agg #[.string osc, .string oho, .int .i64 opo, .int .i64 ono]) ∧ Below W.heap.size W w') := KO0
  have KT1 : Hid (∀ W, Calls Tryz.prog 107 #[.agg #[.string osc, .string oho, .int .i64 opo, .int .i64 ono]] W fun e w' => e = .returned (.string O) ∧ Below W.heap.size W w') := KT0
  have KS1 : Hid (∀ W, Below w.heap.size w W → Calls Tryz.prog 108 #[rv, .agg #[.string tsc, .string tho, .int .i64 tpo, .string tpt]] W fun e w' => e = .returned (.string S) ∧ Below W.heap.size W w') := KS0
  have K3 : Hid (∀ W, Below w.heap.size w W → Calls Tryz.prog 79 #[.slice (some ⟨g, 0, none⟩) L.length cap, rv, .int .i64 id] W fun e w' => e = .returned (.bool th) ∧ Below W.heap.size W w') := K30
  clear KO0 KT0 KS0 K30
  go_enter Tryz.func73, Tryz.ntmps73
  go_wp2_with fail
  refine (KA.out _ (Below.refl _ _)).mono ?_
  rintro e w1 ⟨rfl, e1⟩
  rw [ew]
  subst e1
  go_wp2_with fail
  refine (KO1.out _).mono ?_
  rintro e w2 ⟨rfl, hb2⟩
  have B2 : Hid (Below w1.heap.size w1 w2) := hb2
  clear hb2 c0 c1 c2 c3 c4 c5 c6 c7 c8 KO1
  go_wp2_with fail
  refine (KT1.out _).mono ?_
  rintro e w3 ⟨rfl, hb3⟩
  have B3 : Hid (Below w1.heap.size w1 w3) := B2.out.trans (hb3.mono B2.out.size)
  clear hb3 B2 KT1
  have e94 : (⟨#[94]⟩ : ByteArray).size = 1 := rfl
  have e33 : (⟨#[33]⟩ : ByteArray).size = 1 := rfl
  go_wp2_with fail
  refine (KP.out _ B3.out).mono ?_
  rintro e w4 ⟨⟨k, rfl, hk, ek⟩, e4⟩
  subst e4
  have hc4 := HC.out _ B3.out k hk
  rw [ek] at hc4
  have d2 : w4.cell? ⟨g, k * 9 + 2, none⟩ = some (.string tsc) := hc4 2 (by omega)
  have d3 : w4.cell? ⟨g, k * 9 + 3, none⟩ = some (.string tho) := hc4 3 (by omega)
  have d4 : w4.cell? ⟨g, k * 9 + 4, none⟩ = some (.int .i64 tpo) := hc4 4 (by omega)
  have d5 : w4.cell? ⟨g, k * 9 + 5, none⟩ = some (.string tpt) := hc4 5 (by omega)
  have j0 : (0 : Int) ≤ k := by omega
  have j1 : (k : Int) < L.length := by omega
  clear hc4 ek HC KP KA
  go_wp2_with fail
  refine (KS1.out _ B3.out).mono ?_
  rintro e w5 ⟨rfl, hb5⟩
  have B5 : Hid (Below w1.heap.size w1 w5) := B3.out.trans (hb5.mono B3.out.size)
  clear hb5 B3 KS1 d2 d3 d4 d5
  have hz1 : (O ++ ⟨#[94]⟩ ++ S : ByteArray).size ≤ 40000 := by rw [ByteArray.size_append, ByteArray.size_append, e94]; omega
  go_wp2_with fail
  refine (K3.out _ B5.out).mono ?_
  rintro e w6 ⟨rfl, hb6⟩
  have B6 : Hid (Below w1.heap.size w1 w6) := B5.out.trans (hb6.mono B5.out.size)
  clear hb6 B5 K3
  cases th with
  | true =>
    have HQ : Hid (R = O ++ ⟨#[94]⟩ ++ S ++ ⟨#[33]⟩) := by show R = _; rw [HE.out]; rfl
    go_wp2
    go_ret
    exact ⟨ret_text HQ.out.symm, B6.out⟩
  | false =>
    have HQ : Hid (R = O ++ ⟨#[94]⟩ ++ S) := by show R = _; rw [HE.out]; rfl
    go_wp2
    go_ret
    exact ⟨ret_text HQ.out.symm, B6.out⟩
set_option maxRecDepth 10000 in
set_option maxHeartbeats 8000000 in
theorem specFrameKey_any (v rv : Value) (L : List Fr) (B Br n : Nat) (f : Nat → ByteArray) (id : Int) (w : World) (hs : SliceF w B v L) (hn : L.length ≤ 1048576) (hr : SliceS w Br rv n f) (l1 : n ≤ 1048576) (hf : ∀ i, i < n → (f i).size ≤ 1048576) :
    Calls Tryz.prog 27 #[v, rv, .int .i64 id] w fun e w' => e = .returned (.string (keyF n f L id)) ∧ Below w.heap.size w w' := by
  have KA : Hid (∀ W, Below w.heap.size w W → Calls Tryz.prog 63 #[v, .int .i64 id] W fun e w' => e = .returned (.int .i64 (whF L id)) ∧ w' = W) := fun W hb => specAt_any v L B id W (hs.below hb) hn
  have KF : Hid (∀ W, Below w.heap.size w W → Calls Tryz.prog 17 #[v] W fun e w' => e = .returned (.bool (framesB L)) ∧ Below W.heap.size W w') := fun W hb => specFrames_any v L B W (hs.below hb) hn
  have KR : Hid (∀ W, Below w.heap.size w W → Calls Tryz.prog 61 #[rv] W fun e w' => e = .returned (.bool (rulesB n f)) ∧ Below W.heap.size W w') := fun W hb => specRules_any rv n Br f W (hr.below hb) l1 hf
  have KT1 : Hid (framesB L = true → rulesB n f = true → hereF L id = true → ∀ W, Below w.heap.size w W → Calls Tryz.prog 73 #[v, rv, .int .i64 id] W fun e w' => e = .returned (.string (keyF n f L id)) ∧ Below W.heap.size W w') := fun h1 h2 h3 W hb => specKey9_any v rv L B Br n f id W (hs.below hb) hn (hr.below hb) l1 h1 h2 h3
  have HE : Hid ((framesB L && rulesB n f && hereF L id) = false → keyF n f L id = ⟨#[]⟩) := fun h => by unfold keyF; rw [h]; rfl
  have HZ : Hid (hereF L id = decide (0 ≤ whF L id)) := rfl
  have H10 : Hid (framesB L = true → L.length ≤ 10) := fun h => (framesB_parts h).1
  have H20 : Hid (rulesB n f = true → n ≤ 20) := fun h => (rulesB_parts h).1
  obtain ⟨p, cap, rfl⟩ : ∃ p cap, v = .slice p L.length cap := by obtain ⟨-, p, c, e, -⟩ := hs; exact ⟨p, c, e⟩
  obtain ⟨pr, capr, rfl⟩ : ∃ p cap, rv = .slice p n cap := by obtain ⟨p, c, e, -⟩ := hr; exact ⟨p, c, e⟩
  clear hs hr hf
  generalize keyF n f L id = R at *
  generalize framesB L = fb at *
  generalize rulesB n f = rb at *
  generalize hereF L id = hf at *
  generalize whF L id = z at *
  by_cases h4 : 400 < L.length
  · have q4 : decide ((400 : Int) < (L.length : Int)) = true := by rw [decide_eq_true_iff]; omega
    have HQ : Hid (R = ⟨#[]⟩) := HE.out (by
      cases fb with
      | false => simp
      | true => exact absurd (H10.out rfl) (by omega))
    go_enter Tryz.func27, Tryz.ntmps27
    go_wp2
    go_ret
    exact ⟨ret_text HQ.out.symm, Below.refl _ _⟩
  have q4 : decide ((400 : Int) < (L.length : Int)) = false := by rw [decide_eq_false_iff_not]; omega
  by_cases h5 : 400 < n
  · have q5 : decide ((400 : Int) < (n : Int)) = true := by rw [decide_eq_true_iff]; omega
    have HQ : Hid (R = ⟨#[]⟩) := HE.out (by
      cases rb with
      | false => simp
      | true => exact absurd (H20.out rfl) (by omega))
    go_enter Tryz.func27, Tryz.ntmps27
    go_wp2
    go_ret
    exact ⟨ret_text HQ.out.symm, Below.refl _ _⟩
  have q5 : decide ((400 : Int) < (n : Int)) = false := by rw [decide_eq_false_iff_not]; omega
  clear H10 H20
  go_enter Tryz.func27, Tryz.ntmps27
  go_wp2_with fail
  refine (KF.out _ (Below.refl _ _)).mono ?_
  rintro e w1 ⟨rfl, hb1⟩
  have B1 : Hid (Below w.heap.size w w1) := hb1
  clear hb1 KF
  cases fb with
  | false =>
    have HQ : Hid (R = ⟨#[]⟩) := HE.out rfl
    go_wp2
    go_ret
    exact ⟨ret_text HQ.out.symm, B1.out⟩
  | true =>
  have KT2 : Hid (rb = true → hf = true → ∀ W, Below w.heap.size w W → Calls Tryz.prog 73 #[.slice p L.length cap, .slice pr n capr, .int .i64 id] W fun e w' => e = .returned (.string R) ∧ Below W.heap.size W w') := KT1.out rfl
  clear KT1
  go_wp2_with fail
  refine (KR.out _ B1.out).mono ?_
  rintro e w2 ⟨rfl, hb2⟩
  have B2 : Hid (Below w.heap.size w w2) := B1.out.trans (hb2.mono B1.out.size)
  clear hb2 KR
  cases rb with
  | false =>
    have HQ : Hid (R = ⟨#[]⟩) := HE.out rfl
    go_wp2
    go_ret
    exact ⟨ret_text HQ.out.symm, B2.out⟩
  | true =>
  have KT3 : Hid (hf = true → ∀ W, Below w.heap.size w W → Calls Tryz.prog 73 #[.slice p L.length cap, .slice pr n capr, .int .i64 id] W fun e w' => e = .returned (.string R) ∧ Below W.heap.size W w') := KT2.out rfl
  clear KT2
  go_wp2_with fail
  refine (KA.out _ B2.out).mono ?_
  rintro e w3 ⟨rfl, e3⟩
  subst e3
  clear KA
  cases hf with
  | false =>
    have q0 : decide (z < 0) = true := by
      have h : false = decide (0 ≤ z) := HZ.out
      have := of_decide_eq_false h.symm
      exact decide_eq_true (by omega)
    have HQ : Hid (R = ⟨#[]⟩) := HE.out rfl
    go_wp2
    go_ret
    exact ⟨ret_text HQ.out.symm, B2.out⟩
  | true =>
    have q0 : decide (z < 0) = false := by
      have h : true = decide (0 ≤ z) := HZ.out
      have := of_decide_eq_true h.symm
      exact decide_eq_false (by omega)
    have KT : Hid (∀ W, Below w.heap.size w W → Calls Tryz.prog 73 #[.slice p L.length cap, .slice pr n capr, .int .i64 id] W fun e w' => e = .returned (.string R) ∧ Below W.heap.size W w') := KT3.out rfl
    clear KT3 HE
    go_wp2_with fail
    refine (KT.out _ B2.out).mono ?_
    rintro e w4 ⟨rfl, hb4⟩
    have B4 : Hid (Below w.heap.size w w4) := B2.out.trans (hb4.mono B2.out.size)
    clear hb4
    go_wp2
    go_ret
    exact ⟨rfl, B4.out⟩
end Go.Proofs.YtnpaekjiafaahaaGreatDoor

/- The walk of the program's treeOf, and of the maker of the iterator. -/
namespace Go.Proofs.YtnpaekjiafaahaaGreatDoor
open Go.RowKit Go.Maps

set_option maxRecDepth 10000 in
set_option maxHeartbeats 8000000 in
theorem treeOf_any (v : Value) (L : List Fr) (B : Nat) (w : World) (hs : SliceF w B v L) (hL : framesB L = true) :
    Calls Tryz.prog 76 #[v] w fun e w' => ∃ bm, e = .returned (.map (some bm)) ∧ w.heap.size ≤ bm ∧ TreeIs w' bm 10 L ∧ Below w.heap.size w w' := by
  have h10 := (framesB_parts hL).1
  have hid := ids_of hL
  obtain ⟨⟨p, cap, rfl, hg⟩, -⟩ := hs
  have HG : Hid (0 < L.length → ∃ g, p = some ⟨g, 0, none⟩ ∧ g < w.heap.size ∧ ∀ j, j < L.length → ∀ o, o < 9 → w.cell? ⟨g, j * 9 + o, none⟩ = some (frC (atF L j) o)) := fun h0 => by
    obtain ⟨g, e, -, hgw, hc⟩ := hg h0
    exact ⟨g, e, hgw, fun j hj o ho => (hc j hj o ho).1⟩
  have HI : Hid (idsF L) := hid
  have hmm := @run_makeMap Tryz.prog
  have M2 : Hid (TreeIs (w.alloc (.map #[] 0)) w.heap.size 0 (L.take 0)) := tree_made w
  have B2 : Hid (Below w.heap.size w (w.alloc (.map #[] 0))) := (Below.refl _ _).alloc (Nat.le_refl _) _
  clear hg hid hL
  go_enter Tryz.func76, Tryz.ntmps76
  go_wp2
  clear hmm
  generalize hbm : w.heap.size = bm at *
  go_loopw [9] (fun i wr => ∃ k : Nat, k ≤ L.length ∧ i = .int .i64 k ∧ Hid (TreeIs wr bm k (L.take k)) ∧ Hid (Below bm w wr)) (fun i _ => L.length - (intOf i).toNat)
  case atStart => exact ⟨0, Nat.zero_le _, rfl, M2, B2⟩
  case round =>
    obtain ⟨k, hk, rfl, HM, HB⟩ := hrel
    by_cases hlt : k < L.length
    · obtain ⟨g, rfl, hgw, hc⟩ := HG.out (by omega)
      have hx : ∀ o, o < 9 → wr.cell? ⟨g, k * 9 + o, none⟩ = some (frC (atF L k) o) := fun o ho => by rw [HB.out.cell (p := ⟨g, k * 9 + o, none⟩) hgw]; exact hc k hlt o ho
      have c0 : wr.cell? ⟨g, k * 9, none⟩ = some (.int .i64 (atF L k).id) := hx 0 (by omega)
      have c1 : wr.cell? ⟨g, k * 9 + 1, none⟩ = some (.int .i64 (atF L k).pa) := hx 1 (by omega)
      have c2 : wr.cell? ⟨g, k * 9 + 2, none⟩ = some (.string (atF L k).sc) := hx 2 (by omega)
      have c3 : wr.cell? ⟨g, k * 9 + 3, none⟩ = some (.string (atF L k).ho) := hx 3 (by omega)
      have c4 : wr.cell? ⟨g, k * 9 + 4, none⟩ = some (.int .i64 (atF L k).po) := hx 4 (by omega)
      have c5 : wr.cell? ⟨g, k * 9 + 5, none⟩ = some (.string (atF L k).pt) := hx 5 (by omega)
      have c6 : wr.cell? ⟨g, k * 9 + 6, none⟩ = some (.bool (atF L k).sb) := hx 6 (by omega)
      have c7 : wr.cell? ⟨g, k * 9 + 7, none⟩ = some (.bool (atF L k).fl) := hx 7 (by omega)
      have c8 : wr.cell? ⟨g, k * 9 + 8, none⟩ = some (.int .i64 (atF L k).tc) := hx 8 (by omega)
      have k0 : (0 : Int) ≤ k := by omega
      have k1 : (k : Int) < L.length := by omega
      obtain ⟨D, hown, hD⟩ := HM.out
      have hkey := keyOf9 (id := (atF L k).id) (by have := (HI.out k hlt).1; omega) (by have := (HI.out k hlt).1; omega)
      have hP : ∀ w', w'.ownsMap Tryz.prog 2 brElem bm (k + 1) (D.put (.int .i64 (atF L k).id) (.held (atF L k, (atF L k).pa))) → TreeIs w' bm (k + 1) (L.take (k + 1)) := fun w' h => tree_put HI.out hlt hown.isMap hD h
      have HP : Hid (∀ w', w'.ownsMap Tryz.prog 2 brElem bm (k + 1) (D.put (.int .i64 (atF L k).id) (.held (atF L k, (atF L k).pa))) → TreeIs w' bm (k + 1) (L.take (k + 1))) := hP
      have HO : Hid (wr.ownsMap Tryz.prog 2 brElem bm k D) := hown
      clear hc hx hD HM hown hP HG HI
      generalize atF L k = y at *
      obtain ⟨yid, ypa, ysc, yho, ypo, ypt, ysb, yfl, ytc⟩ := y
      dsimp only at *
      have hel : brElem (.agg #[.int .i64 yid, .int .i64 ypa, .string ysc, .string yho, .int .i64 ypo, .string ypt, .bool ysb, .bool yfl, .int .i64 ytc, .int .i64 ypa]) = some (.held (⟨yid, ypa, ysc, yho, ypo, ypt, ysb, yfl, ytc⟩, ypa), []) := rfl
      go_wp2_with (at_mapUpdate; go_must (refine wpList_mapUpdate_own _ rfl _ _ _ 92 rfl 2 128 int9Keyed Tryz.underlying92 _ bm k D rfl (HO.out.alloc _) (by unfold maxLen; omega) _ _ _ rfl rfl hkey _ [] hel ?_); intro w3 hown3 hg3)
      have B3 : Hid (Below bm w w3) := (HB.out.alloc (by have := HB.out.size; omega) _).grown hg3 (by have := HB.out.size; simp; omega) (fun j hj => by have := Option.some.inj hj; omega)
      have M3 : Hid (TreeIs w3 bm (k + 1) (L.take (k + 1))) := HP.out _ hown3
      clear hown3 hg3 HP HO
      go_wp2
      go_roundw
      case rel => exact ⟨k + 1, by omega, by go_num, M3, B3⟩
      case measure => simp [intOf]; omega
    · obtain rfl : k = L.length := by omega
      have M4 : Hid (TreeIs wr bm 10 L) := by
        have := HM.out
        rw [List.take_length] at this
        exact this.mono h10
      go_wp2
      go_ret
      exact ⟨bm, rfl, Nat.le_of_eq hbm, M4.out, by rw [hbm]; exact HB.out⟩
set_option maxRecDepth 10000 in
theorem outward_any (bm : Nat) (id : Int) (w : World) :
    Calls Tryz.prog 77 #[.map (some bm), .int .i64 id] w fun e w' => e = .returned (.func (.func 109) #[] #[.pointer (some ⟨w.heap.size, 0, none⟩), .pointer (some ⟨w.heap.size + 1, 0, none⟩)]) ∧ w' = (w.alloc (.cells #[.map (some bm)] 92)).alloc (.cells #[.int .i64 id] 2) := by
  go_enter Tryz.func77, Tryz.ntmps77
  go_wp2
  go_ret
  exact ⟨rfl, rfl⟩
end Go.Proofs.YtnpaekjiafaahaaGreatDoor

/- The contract of the program's iterator: those around a frame, one by one, from it outward. Written by impltree1.py. -/
namespace Go.Proofs.YtnpaekjiafaahaaGreatDoor
open Go.RowKit Go.Maps Go.Shelf
attribute [local go_sem] Oper.semAt_some

/-- what a round keeps: all that lay below n₁ but for one block, and all cells -/
def KpF (row : Option Nat) (n₁ : Nat) (A B : World) : Prop := A.heap.size ≤ B.heap.size ∧ ∀ (k : Nat) (o : Obj), some k ≠ row → A.heap[k]? = some o → (k < n₁ ∨ o.isCells = true) → B.heap[k]? = some o
theorem KpF.refl (row : Option Nat) (n₁ : Nat) (A : World) : KpF row n₁ A A := ⟨Nat.le_refl _, fun _ _ _ h _ => h⟩
theorem KpF.trans {row : Option Nat} {n₁ : Nat} {A B C : World} (h : KpF row n₁ A B) (k : KpF row n₁ B C) : KpF row n₁ A C :=
  ⟨Nat.le_trans h.1 k.1, fun j o hj hA hor => k.2 j o hj (h.2 j o hj hA hor) hor⟩
theorem KpF.of_below {row : Option Nat} {n₁ : Nat} {A B : World} (h : Below A.heap.size A B) : KpF row n₁ A B :=
  ⟨h.size, fun k o _ hA _ => by rw [h.block k (Array.getElem?_eq_some_iff.1 hA).1]; exact hA⟩
theorem KpF.put {row : Option Nat} {n₁ n₂ : Nat} (hn : n₁ ≤ n₂) (W : World) (l : Nat) (o o' : Obj) (hl : n₂ ≤ l) (h : W.heap[l]? = some o) (hc : o.isCells = false) (_ : o.isWalk = false) : KpF row n₁ W (W.putObj l o') :=
  ⟨by simp, fun k o2 _ h2 hor => by
    by_cases e : k = l
    · subst e
      rw [h] at h2; cases h2
      rcases hor with hor | hor
      · omega
      · rw [hc] at hor; cases hor
    · rw [World.putObj_heap_other (fun e' => e e')]; exact h2⟩
theorem KpF.cell {row : Option Nat} {n₁ : Nat} {A B : World} (h : KpF row n₁ A B) {a : Addr} {v : Value} (hv : A.cell? a = some v) (hr : some a.block ≠ row) : B.cell? a = some v := by
  obtain ⟨o, ho, hc⟩ := cells_of_cell hv
  exact (World.cell?_of_block ((h.2 _ o hr ho (.inr hc)).trans ho.symm)).trans hv
theorem KpF.tree {row : Option Nat} {n₁ : Nat} {A B : World} (h : KpF row n₁ A B) {bm N : Nat} {L : List Fr} (hm : TreeIs A bm N L) (hb : bm < n₁) (hr : some bm ≠ row) : TreeIs B bm N L :=
  hm.of_block (by
    have hlt := hm.lt
    rw [h.2 bm A.heap[bm] hr (Array.getElem?_eq_getElem hlt) (.inl hb), Array.getElem?_eq_getElem hlt])
/-- how many are left -/
def leftF (L : List Fr) (b ok : Value) (w : World) : Nat :=
  match b, ok with
  | .pointer (some a), .bool true => (match w.cell? ⟨a.block, 0, none⟩ with
    | some (.int _ id) => (whF L id).toNat + 1
    | _ => 0)
  | _, _ => 0
theorem leftF_is {L : List Fr} {bb : Nat} {w : World} {id : Int} (h : w.cell? ⟨bb, 0, none⟩ = some (.int .i64 id)) : leftF L (.pointer (some ⟨bb, 0, none⟩)) (.bool true) w = (whF L id).toNat + 1 := by
  unfold leftF; simp only [h]
theorem leftF_end (L : List Fr) (b : Value) (w : World) : leftF L b (.bool false) w = 0 := by
  cases b <;> simp [leftF]
set_option maxRecDepth 100000 in
set_option maxHeartbeats 8000000 in
theorem outward1_in (n : Nat) (hn : 1 ≤ n) (l bt bi bm n₁ : Nat) (row : Option Nat) (L : List Fr) (hL : framesB L = true) (id : Int) (i1 : -9223372036854775808 ≤ id) (i2 : id ≤ 9223372036854775807) (J Jx : List Fr → World → Prop)
    (W : World) (hJ : AbidesFrom W.heap.size J)
    (hY : ∀ pre x W1, J pre W1 → pre.length < 11 → uF x = true → YieldAt Fence.wide (n - 1) Tryz.prog l #[frV x] W1 fun e W' =>
      (e = .returned (.bool true) ∧ J (pre ++ [x]) W' ∧ KpF row n₁ W1 W') ∨ (e = .returned (.bool false) ∧ Jx (pre ++ [x]) W'))
    (ht : W.cell? ⟨bt, 0, none⟩ = some (.map (some bm))) (hi : W.cell? ⟨bi, 0, none⟩ = some (.int .i64 id)) (hm : TreeIs W bm 10 L) (hbm : bm < n₁) (hbt : bt < n₁) (r1 : some bm ≠ row) (r2 : some bt ≠ row) (hn₁ : n₁ ≤ W.heap.size) (hrow : ∀ r, row = some r → r < n₁) (h0 : J [] W) :
    CallsIn Fence.wide n Tryz.prog 109 #[.func (.yield l) #[] #[], .pointer (some ⟨bt, 0, none⟩), .pointer (some ⟨bi, 0, none⟩)] W fun e W' => (∃ v, e = .returned v) ∧
      ((∃ ys, ys = wayF L id ∧ J ys W') ∨ (∃ pre, pre <+: wayF L id ∧ Jx pre W')) := by
  obtain ⟨D, hown, hD⟩ := hm
  have HX : Hid (∀ x i, D.atKey (.int .i64 id) (.held (frNone, 0)) = .held (x, i) → hereF L id = true → x = getF L id ∧ i = (getF L id).pa) := fun x i h1 h2 => by
    rw [(hD id).2 h2] at h1
    injection h1 with h1
    injection h1 with h1 h3
    exact ⟨h1.symm, h3.symm⟩
  have HH : Hid (Maps.has D (.int .i64 id) = hereF L id) := (hD id).1
  have HO : Hid (W.ownsMap Tryz.prog 2 brElem bm 10 D) := hown
  have HM : Hid (TreeIs W bm 10 L) := ⟨D, hown, hD⟩
  have hkey := keyOf9 (id := id) i1 i2
  have HT : Hid (W.cell? ⟨bt, 0, none⟩ = some (.map (some bm))) := ht
  have HJ : Hid (∀ s A o, W.heap.size ≤ A.heap.size → J s A → J s (A.alloc o)) := fun s A o _ h => hJ s A _ none h (World.grownBy_alloc A o none) (fun r e => by cases e)
  have hlen : L.length ≤ 10 := (framesB_parts hL).1
  have HL : Hid (framesB L = true) := hL
  have HJ0 : Hid (J [] W) := h0
  have HY : Hid (∀ pre x W1, J pre W1 → pre.length < 11 → uF x = true → YieldAt Fence.wide (n - 1) Tryz.prog l #[frV x] W1 fun e W' => (e = .returned (.bool true) ∧ J (pre ++ [x]) W' ∧ KpF row n₁ W1 W') ∨ (e = .returned (.bool false) ∧ Jx (pre ++ [x]) W')) := hY
  have HR : Hid ((some bm ≠ row ∧ some bt ≠ row) ∧ ∀ r, row = some r → r < n₁) := ⟨⟨r1, r2⟩, hrow⟩
  have HID : Hid (idsF L) := ids_of hL
  clear hown hD hY h0 hJ hL r1 r2 hrow
  refine callsIn_of_wp Tryz.func109 rfl trivial ?_ rfl
  simp only [Tryz.ntmps109, List.size_toArray, List.length_cons, List.length_nil, Nat.reduceAdd, Nat.reduceSub, Array.replicate_succ, Array.replicate_zero, List.push_toArray, List.append_toArray, List.nil_append, List.cons_append]
  gi_wp2_with (gi_at_lookup; refine wpListIn_lookup_own_ok _ rfl _ _ 92 rfl 2 128 int9Keyed Tryz.underlying92 brElem (Tryz.zeroValue128 _) (.held (frNone, 0)) [] rfl bm 10 D rfl HO.out _ _ rfl hkey ?_; intro v ps hv; obtain ⟨x, i, rfl, hc⟩ := brElem_inv hv; have hx := HX.out x i (congrArg Prod.fst hc); have HXX : Hid (hereF L id = true → x = getF L id ∧ i = (getF L id).pa) := hx; clear hc hv hx; obtain ⟨xid, xpa, xsc, xho, xpo, xpt, xsb, xfl, xtc⟩ := x; unfold brV; dsimp only; rw [HH.out])
  clear HX HH HO ht
  gi_loopw [4, 5] (fun b ok wr => ∃ (bb : Nat) (cid : Int) (pre : List Fr) (x : Fr) (i : Int), b = .pointer (some ⟨bb, 0, none⟩) ∧ ok = .bool (hereF L cid) ∧ Hid (n₁ ≤ bb) ∧
      Hid (∀ o v, [.int .i64 (x).id, .int .i64 (x).pa, .string (x).sc, .string (x).ho, .int .i64 (x).po, .string (x).pt, .bool (x).sb, .bool (x).fl, .int .i64 (x).tc, .int .i64 i][o]? = some v → wr.cell? ⟨bb, o, none⟩ = some v) ∧ Hid (hereF L cid = true → x = getF L cid ∧ i = (getF L cid).pa) ∧ Hid (wayF L id = pre ++ wayF L cid) ∧ Hid (J pre wr) ∧ Hid (KpF row n₁ W wr))
    (fun b ok wr => leftF L b ok wr)
  case atStart =>
    exact ⟨W.heap.size, id, [], ⟨xid, xpa, xsc, xho, xpo, xpt, xsb, xfl, xtc⟩, i, rfl, rfl, hn₁, fun o v h => by rw [World.cell?_alloc_new]; simpa using h, HXX, rfl, HJ.out _ _ _ (Nat.le_refl _) HJ0.out, KpF.of_below ((Below.refl _ _).alloc (Nat.le_refl _) _)⟩
  case round =>
    obtain ⟨bb, cid, pre, x, i, rfl, rfl, hbb, HC, HXX, HW, HJs, HK⟩ := hrel
    cases hh : hereF L cid with
    | false =>
      have HE : Hid (pre = wayF L id) := by show pre = _; rw [HW.out, wayF_none hh, List.append_nil]
      clear HXX HC
      gi_wp2
      go_end0
      exact ⟨⟨_, rfl⟩, .inl ⟨pre, HE.out, HJs.out⟩⟩
    | true =>
      obtain ⟨e1, e2⟩ := HXX.out hh
      subst e1 e2
      have hway := wayF_here HL.out hh
      have hpl : pre.length < 11 := by
        have h1 := wayF_len (L := L) id
        rw [HW.out, hway] at h1
        simp only [List.length_append, List.length_cons] at h1
        omega
      have HP : Hid (pre ++ [getF L cid] <+: wayF L id) := ⟨wayF L (getF L cid).pa, by rw [HW.out, hway]; simp⟩
      have HN : Hid (wayF L id = (pre ++ [getF L cid]) ++ wayF L (getF L cid).pa) := by show wayF L id = _; rw [HW.out, hway]; simp
      obtain ⟨k, hk, ew, eg, ei⟩ := here_wh hh
      have hkx : (getF L cid).id = cid := by rw [eg]; exact ei
      have HLT : Hid (whF L (getF L cid).pa < whF L (getF L cid).id) := by show _ < _; rw [hkx]; exact parent_less HL.out hh
      have hpar : -9223372036854775808 ≤ (getF L cid).pa ∧ (getF L cid).pa ≤ 9223372036854775807 := by
        rw [eg]
        have hok := (framesB_parts HL.out).2 k hk
        unfold okF holdF at hok
        simp only [Bool.and_eq_true, Bool.or_eq_true, beq_iff_eq, decide_eq_true_eq] at hok
        rcases hok.2 with h | h
        · rw [h]; omega
        · rcases whF_cases (L.take k) (atF L k).pa with ⟨j, hj, -, e1, -⟩ | ⟨e, -⟩
          · rw [List.length_take] at hj
            rw [atF_take (by omega) (by omega)] at e1
            have := (HID.out j (by omega)).1
            omega
          · omega
      have hu : uF (getF L cid) = true := by
        rw [eg]
        have hok := (framesB_parts HL.out).2 k hk
        unfold okF frB at hok
        simp only [Bool.and_eq_true] at hok
        exact hok.1.1.1.1.2
      have hkey2 := keyOf9 (id := (getF L cid).pa) hpar.1 hpar.2
      obtain ⟨fn, tmps, assign, body, hy, hR⟩ := HY.out pre (getF L cid) wr HJs.out hpl hu
      unfold frV at hy
      (try dsimp only at hy)
      have c0 : wr.cell? ⟨bb, 0, none⟩ = some (.int .i64 (getF L cid).id) := HC.out 0 _ rfl
      have c1 : wr.cell? ⟨bb, 1, none⟩ = some (.int .i64 (getF L cid).pa) := HC.out 1 _ rfl
      have c2 : wr.cell? ⟨bb, 2, none⟩ = some (.string (getF L cid).sc) := HC.out 2 _ rfl
      have c3 : wr.cell? ⟨bb, 3, none⟩ = some (.string (getF L cid).ho) := HC.out 3 _ rfl
      have c4 : wr.cell? ⟨bb, 4, none⟩ = some (.int .i64 (getF L cid).po) := HC.out 4 _ rfl
      have c5 : wr.cell? ⟨bb, 5, none⟩ = some (.string (getF L cid).pt) := HC.out 5 _ rfl
      have c6 : wr.cell? ⟨bb, 6, none⟩ = some (.bool (getF L cid).sb) := HC.out 6 _ rfl
      have c7 : wr.cell? ⟨bb, 7, none⟩ = some (.bool (getF L cid).fl) := HC.out 7 _ rfl
      have c8 : wr.cell? ⟨bb, 8, none⟩ = some (.int .i64 (getF L cid).tc) := HC.out 8 _ rfl
      have c9 : wr.cell? ⟨bb, 9, none⟩ = some (.int .i64 (getF L cid).pa) := HC.out 9 _ rfl
      have HK3 : Hid (∀ W3, KpF row n₁ wr W3 → W3.cell? ⟨bt, 0, none⟩ = some (.map (some bm)) ∧ TreeIs W3 bm 10 L) := fun W3 h3 =>
        have hk := HK.out.trans h3
        ⟨hk.cell HT.out HR.out.1.2, hk.tree HM.out hbm HR.out.1.1⟩
      have HC3 : Hid (∀ W3, KpF row n₁ wr W3 → ∀ o v, wr.cell? ⟨bb, o, none⟩ = some v → W3.cell? ⟨bb, o, none⟩ = some v) := fun W3 h3 o v hv => h3.cell hv (fun e => by have := HR.out.2 bb e.symm; have := hbb.out; omega)
      have HME : Hid (leftF L (.pointer (some ⟨bb, 0, none⟩)) (.bool true) wr = (whF L (getF L cid).id).toNat + 1) := leftF_is c0
      clear HXX HC HW hway hpl eg ei hkx ew hk hu
      have HGP : Hid (∀ D : DataW (Fr × Int), (∀ id : Int, (Maps.has D (.int .i64 id) = hereF L id) ∧ (hereF L id = true → ∀ zd, D.atKey (.int .i64 id) zd = .held (getF L id, (getF L id).pa))) → Maps.has D (.int .i64 (getF L cid).pa) = hereF L (getF L cid).pa ∧ ∀ x i, D.atKey (.int .i64 (getF L cid).pa) (.held (frNone, 0)) = .held (x, i) → hereF L (getF L cid).pa = true → x = getF L (getF L cid).pa ∧ i = (getF L (getF L cid).pa).pa) := fun D hD => ⟨(hD _).1, fun x i h1 h2 => by
        rw [(hD _).2 h2] at h1
        injection h1 with h1
        injection h1 with h1 h3
        exact ⟨h1.symm, h3.symm⟩⟩
      generalize getF L cid = y at *
      obtain ⟨yid, ypa, ysc, yho, ypo, ypt, ysb, yfl, ytc⟩ := y
      dsimp only at *
      gi_wp2
      refine hR.mono ?_
      rintro e W3 (⟨rfl, hJ3, hk3⟩ | ⟨rfl, hJx3⟩)
      · obtain ⟨ht3, hm3⟩ := HK3.out W3 hk3
        obtain ⟨D3, hown3, hD3⟩ := hm3
        have HO3 : Hid (W3.ownsMap Tryz.prog 2 brElem bm 10 D3) := hown3
        obtain ⟨hh3, hx3⟩ := HGP.out D3 hD3
        have HH : Hid (Maps.has D3 (.int .i64 ypa) = hereF L ypa) := hh3
        have HX : Hid (∀ x i, D3.atKey (.int .i64 ypa) (.held (frNone, 0)) = .held (x, i) → hereF L ypa = true → x = getF L ypa ∧ i = (getF L ypa).pa) := hx3
        have HJ3 : Hid (J (pre ++ [⟨yid, ypa, ysc, yho, ypo, ypt, ysb, yfl, ytc⟩]) W3) := hJ3
        have HKK : Hid (KpF row n₁ W W3) := HK.out.trans hk3
        have hbt3 : bt < W3.heap.size := Nat.lt_of_lt_of_le hbt (Nat.le_trans hn₁ HKK.out.1)
        have d0 := HC3.out W3 hk3 0 _ c0
        have d1 := HC3.out W3 hk3 1 _ c1
        have d2 := HC3.out W3 hk3 2 _ c2
        have d3 := HC3.out W3 hk3 3 _ c3
        have d4 := HC3.out W3 hk3 4 _ c4
        have d5 := HC3.out W3 hk3 5 _ c5
        have d6 := HC3.out W3 hk3 6 _ c6
        have d7 := HC3.out W3 hk3 7 _ c7
        have d8 := HC3.out W3 hk3 8 _ c8
        have d9 := HC3.out W3 hk3 9 _ c9
        clear hown3 hD3 hh3 hx3 hJ3 hk3 HC3 HK3 HGP c0 c1 c2 c3 c4 c5 c6 c7 c8 c9 hR
        gi_wp2_with (gi_at_lookup; refine wpListIn_lookup_own_ok _ rfl _ _ 92 rfl 2 128 int9Keyed Tryz.underlying92 brElem (Tryz.zeroValue128 _) (.held (frNone, 0)) [] rfl bm 10 D3 rfl (HO3.out.alloc _) _ _ rfl hkey2 ?_; intro v ps hv; obtain ⟨x, i, rfl, hc⟩ := brElem_inv hv; have hx := HX.out x i (congrArg Prod.fst hc); have HXX : Hid (hereF L ypa = true → x = getF L ypa ∧ i = (getF L ypa).pa) := hx; clear hc hv hx; obtain ⟨xid, xpa, xsc, xho, xpo, xpt, xsb, xfl, xtc⟩ := x; unfold brV; dsimp only; rw [HH.out])
        go_roundw
        case rel => exact ⟨W3.heap.size, ypa, _, ⟨xid, xpa, xsc, xho, xpo, xpt, xsb, xfl, xtc⟩, i, rfl, rfl, Nat.le_trans hn₁ HKK.out.1, fun o v h => by rw [World.cell?_alloc_new]; simpa using h, HXX, HN.out, HJ.out _ _ _ HKK.out.1 HJ3.out, HKK.out.trans (KpF.of_below ((Below.refl _ _).alloc (Nat.le_refl _) _))⟩
        case measure =>
          rw [HME.out]
          cases hp : hereF L ypa with
          | false => rw [leftF_end]; omega
          | true =>
            rw [leftF_is (by rw [World.cell?_alloc_new]; rfl)]
            obtain ⟨e1, -⟩ := HXX.out hp
            obtain ⟨k2, -, ew2, eg2, ei2⟩ := here_wh hp
            have h1 : xid = ypa := by
              have := congrArg Fr.id e1
              rw [eg2, ei2] at this
              exact this
            rw [h1]
            have := HLT.out
            omega
      · gi_wp2
        refine bodyPost_ret (results_none rfl _ _ _) rfl ?_
        exact ⟨⟨_, rfl⟩, .inr ⟨_, HP.out, hJx3⟩⟩
end Go.Proofs.YtnpaekjiafaahaaGreatDoor

/- Where an owned row lies. -/
namespace Go.Proofs.YtnpaekjiafaahaaGreatDoor
open Go.RowKit
theorem own_base {w : World} {B n sz : Nat} {e : TypeId} {v : Value} {xs : List Value} (h : w.ownsRow B e sz v n xs) : ∀ j, v.ownBlock = some j → B ≤ j := by
  intro j hj
  obtain ⟨_, ⟨rfl, _⟩ | ⟨g, cap, cur, rfl, hB, _⟩⟩ := h
  · cases hj
  · have : g = j := Option.some.inj hj
    omega
end Go.Proofs.YtnpaekjiafaahaaGreatDoor

/- Rows of frames that a call owns. Written by rowsown.py. -/
namespace Go.Proofs.YtnpaekjiafaahaaGreatDoor
open Go.RowKit

/-- the cells of one -/
def frVals (c : Fr) : List Value := [.int .i64 c.id, .int .i64 c.pa, .string c.sc, .string c.ho, .int .i64 c.po, .string c.pt, .bool c.sb, .bool c.fl, .int .i64 c.tc]
def frCells : List Fr → List Value
  | [] => []
  | c :: L => frVals c ++ frCells L
theorem frCells_snoc (L : List Fr) (c : Fr) : frCells L ++ frVals c = frCells (L ++ [c]) := by
  induction L with
  | nil => simp [frCells]
  | cons q L ih => simp only [frCells, List.cons_append, List.append_assoc, ih]
theorem frCells_len (L : List Fr) : (frCells L).length = L.length * 9 := by
  induction L with
  | nil => rfl
  | cons q L ih => simp only [frCells, List.length_append, ih, List.length_cons]; show 9 + _ = _; omega
theorem frVals_at (c : Fr) : ∀ o, o < 9 → (frVals c)[o]? = some (frC c o)
  | 0, _ => rfl
  | 1, _ => rfl
  | 2, _ => rfl
  | 3, _ => rfl
  | 4, _ => rfl
  | 5, _ => rfl
  | 6, _ => rfl
  | 7, _ => rfl
  | 8, _ => rfl
theorem frCells_at : ∀ (L : List Fr) (j : Nat), j < L.length → ∀ o, o < 9 → (frCells L)[j * 9 + o]? = some (frR L j o)
  | [], j, h, _, _ => by simp at h
  | c :: L, 0, _, o, ho => by
    rw [Nat.zero_mul, Nat.zero_add, frCells, List.getElem?_append_left (by show o < 9; exact ho), frVals_at c o ho]
    rfl
  | c :: L, j + 1, h, o, ho => by
    have ih := frCells_at L j (by simpa using h) o ho
    have hl : (frVals c).length = 9 := rfl
    rw [frCells, List.getElem?_append_right (by rw [hl]; omega), hl, show (j + 1) * 9 + o - 9 = j * 9 + o by omega, ih]
    simp [frR, atF]
theorem sliceF_of_own {w : World} {B : Nat} {t : TypeId} {v : Value} {L : List Fr} (h : w.ownsRow B t 9 v L.length (frCells L)) : SliceF w B v L := by
  refine ⟨sliceR_of_own h (frCells_at L), ?_⟩
  obtain ⟨_, ⟨rfl, h0⟩ | ⟨g, cap, cur, rfl, _, _, hc, _⟩⟩ := h
  · exact ⟨none, 0, by rw [h0], by omega, fun _ => rfl⟩
  · exact ⟨_, cap, rfl, hc, fun h => by cases h⟩
theorem sliceF_none (w : World) (B : Nat) : SliceF w B (.slice none 0 0) [] := ⟨sliceR_none _ _ _ _ _ _, none, 0, rfl, Nat.le_refl _, fun _ => rfl⟩
theorem cell_Fr (w : World) (c : Fr) (t : TypeId) : ∀ j u, (frVals c)[j]? = some u → (w.alloc (.cells #[.int .i64 c.id, .int .i64 c.pa, .string c.sc, .string c.ho, .int .i64 c.po, .string c.pt, .bool c.sb, .bool c.fl, .int .i64 c.tc] t)).cell? ((⟨w.heap.size, 0, none⟩ : Addr).add j) = some u := by
  intro j u h
  have e : (⟨w.heap.size, 0, none⟩ : Addr).add j = ⟨w.heap.size, j, none⟩ := by unfold Addr.add; split <;> simp_all
  rw [e, World.cell?_alloc_new, ← Array.getElem?_toList]
  exact h
theorem one_Fr (c : Fr) : ∀ v ∈ frVals c, v.oneCell' = true := by
  intro u hu
  simp only [frVals, List.mem_cons, List.not_mem_nil, or_false] at hu
  rcases hu with rfl | rfl | rfl | rfl | rfl | rfl | rfl | rfl | rfl <;> rfl
/-- a row of them, kept while other blocks are written -/
theorem ownF_keep {w w' : World} {B n sz : Nat} {row : Option Nat} {e : TypeId} {v : Value} {xs : List Value} (h : w.ownsRow B e sz v n xs) (hg : w.grownBy w' row) (hne : ∀ g, v.ownBlock = some g → row ≠ some g) : w'.ownsRow B e sz v n xs := by
  obtain ⟨hl, h0 | ⟨g, cap, cur, rfl, hbg, hh, r⟩⟩ := h
  · exact ⟨hl, .inl h0⟩
  · have hgl : g < w.heap.size := (Array.getElem?_eq_some_iff.mp hh).1
    exact ⟨hl, .inr ⟨g, cap, cur, rfl, hbg, by rw [hg.block g hgl (fun e => hne g rfl e.symm)]; exact hh, r⟩⟩
end Go.Proofs.YtnpaekjiafaahaaGreatDoor

/- The walk of the program's topOf over the iterator. Written by impltop.py. -/
namespace Go.Proofs.YtnpaekjiafaahaaGreatDoor
open Go.RowKit Go.Maps Go.Shelf
attribute [local go_sem] Oper.semAt_some

theorem BoxV.kept {W W' : World} {b : Nat} {vs : List Value} {row : Option Nat} (h : BoxV W b vs) (hg : W.grownBy W' row) (hrow : ∀ r, row = some r → ∃ o : Obj, W.heap[r]? = some o ∧ o.isCells = false) : BoxV W' b vs :=
  ⟨Nat.lt_of_lt_of_le h.1 hg.size, fun _ _ e => ⟨cell_kept (h.at e) hg hrow, (frozen_kept (h.at e) hg hrow).trans (h.free e)⟩⟩
/-- the iterator's contract, as the loop's law wants it -/
theorem outward_stops (n : Nat) (hn : 1 ≤ n) (bt bi bm : Nat) (row : Option Nat) (L : List Fr) (hL : framesB L = true) (id : Int) (i1 : -9223372036854775808 ≤ id) (i2 : id ≤ 9223372036854775807) (w : World)
    (ht : w.cell? ⟨bt, 0, none⟩ = some (.map (some bm))) (hi : w.cell? ⟨bi, 0, none⟩ = some (.int .i64 id)) (hm : TreeIs w bm 10 L) (hbt : bt < w.heap.size) (hbi : bi < w.heap.size) (r1 : some bm ≠ row) (r2 : some bt ≠ row) (hrow : ∀ r, row = some r → r < w.heap.size) :
    SeqStopsK Fence.wide n Tryz.prog 109 #[.pointer (some ⟨bt, 0, none⟩), .pointer (some ⟨bi, 0, none⟩)] (fun x : Fr => #[frV x]) (KpF row w.heap.size) (fun ys => ys = wayF L id) (fun pre => pre <+: wayF L id) 11 w :=
  fun l J Jx W hW hJ _ hY h0 => outward1_in n hn l bt bi bm w.heap.size row L hL id i1 i2 J Jx W hJ (fun pre x W1 a b _ => hY pre x W1 a b) ((hW.cell (p := ⟨bt, 0, none⟩) hbt).trans ht) ((hW.cell (p := ⟨bi, 0, none⟩) hbi).trans hi) (hm.of_block (hW.block bm hm.lt)) hm.lt hbt r1 r2 hW.size hrow h0
theorem BoxV.set_other {w : World} {b g o : Nat} {vs : List Value} {v : Value} (h : BoxV w b vs) (hne : g ≠ b) : BoxV (w.setCell ⟨g, o, none⟩ v) b vs :=
  h.of_block (Below.heap_setCell _ _ _ _ (fun e => hne (by first | exact e | exact e.symm))) (by simp [World.setCell])
theorem BoxV.set {w : World} {b : Nat} {vs : List Value} (h : BoxV w b vs) (i : Nat) (hi : i < vs.length) (v : Value) : BoxV (w.setCell ⟨b, i, none⟩ v) b (vs.set i v) := by
  refine ⟨by simpa [World.setCell] using h.1, fun j u e => ?_⟩
  have hf : ∃ u', vs[j]? = some u' := by
    by_cases hj : j = i
    · subst hj; exact ⟨_, List.getElem?_eq_getElem hi⟩
    · rw [List.getElem?_set_ne (fun e' => hj e'.symm)] at e; exact ⟨u, e⟩
  obtain ⟨u', hu'⟩ := hf
  refine ⟨?_, (World.frozen?_setCell _ _ _ _).trans (h.free hu')⟩
  by_cases hj : j = i
  · subst hj
    rw [List.getElem?_set_self hi] at e
    obtain rfl := Option.some.inj e
    exact World.cell?_setCell_same _ _ _ (h.at hu')
  · rw [List.getElem?_set_ne (fun e' => hj e'.symm)] at e
    rw [World.cell?_setCell_other _ _ _ _ (fun e' => hj (by injection e' with _ e'; exact e'.symm))]
    exact h.at e
theorem KpF.set {b n₁ o : Nat} {A B : World} {v : Value} (h : KpF (some b) n₁ A B) : KpF (some b) n₁ A (B.setCell ⟨b, o, none⟩ v) :=
  ⟨by simpa [World.setCell] using h.1, fun k q hk hA hor => by
    have := h.2 k q hk hA hor
    rw [Below.heap_setCell _ _ _ _ (fun e => hk (by rw [show k = b from by first | exact e | exact e.symm]))]
    exact this⟩
/-- the same for rounds that are told that the url is right -/
theorem outward_stopsR (n : Nat) (hn : 1 ≤ n) (bt bi bm : Nat) (row : Option Nat) (L : List Fr) (hL : framesB L = true) (id : Int) (i1 : -9223372036854775808 ≤ id) (i2 : id ≤ 9223372036854775807) (w : World)
    (ht : w.cell? ⟨bt, 0, none⟩ = some (.map (some bm))) (hi : w.cell? ⟨bi, 0, none⟩ = some (.int .i64 id)) (hm : TreeIs w bm 10 L) (hbt : bt < w.heap.size) (hbi : bi < w.heap.size) (r1 : some bm ≠ row) (r2 : some bt ≠ row) (hrow : ∀ r, row = some r → r < w.heap.size) :
    SeqStopsK Fence.wide n Tryz.prog 109 #[.pointer (some ⟨bt, 0, none⟩), .pointer (some ⟨bi, 0, none⟩)] (fun x : { x : Fr // uF x = true } => #[frV x.1]) (KpF row w.heap.size) (fun ys => ys.map Subtype.val = wayF L id) (fun pre => pre.map Subtype.val <+: wayF L id) 11 w :=
  fun l J Jx W hW hJ _ hY h0 => by
    refine (outward1_in n hn l bt bi bm w.heap.size row L hL id i1 i2 (fun ys W => ∃ zs : List { x : Fr // uF x = true }, zs.map Subtype.val = ys ∧ J zs W) (fun ys W => ∃ zs : List { x : Fr // uF x = true }, zs.map Subtype.val = ys ∧ Jx zs W) W
      (fun s X Y r h hg hr => by obtain ⟨zs, e, hj⟩ := h; exact ⟨zs, e, hJ zs X Y r hj hg hr⟩)
      (fun pre x W1 h hlen hu => by
        obtain ⟨zs, rfl, hj⟩ := h
        refine (hY zs ⟨x, hu⟩ W1 hj (by simpa using hlen)).mono ?_
        rintro e W' (⟨he, h1, h2⟩ | ⟨he, h1⟩)
        · exact .inl ⟨he, ⟨zs ++ [⟨x, hu⟩], by simp, h1⟩, h2⟩
        · exact .inr ⟨he, ⟨zs ++ [⟨x, hu⟩], by simp, h1⟩⟩)
      ((hW.cell (p := ⟨bt, 0, none⟩) hbt).trans ht) ((hW.cell (p := ⟨bi, 0, none⟩) hbi).trans hi) (hm.of_block (hW.block bm hm.lt)) hm.lt hbt r1 r2 hW.size hrow ⟨[], rfl, h0⟩).mono ?_
    rintro e W' ⟨he, ⟨ys, rfl, zs, hz, hj⟩ | ⟨pre, hp, zs, rfl, hj⟩⟩
    · exact ⟨he, .inl ⟨zs, hz, hj⟩⟩
    · exact ⟨he, .inr ⟨zs, hp, hj⟩⟩
theorem boxed9_one (w : World) (v : Value) (t : TypeId) : (w.alloc (.cells #[v] t)).cell? ⟨w.heap.size, 0, none⟩ = some v := by simp
set_option maxRecDepth 100000 in
set_option maxHeartbeats 8000000 in
theorem topOf_any (v : Value) (L : List Fr) (B : Nat) (id : Int) (w : World) (hs : SliceF w B v L) (hL : framesB L = true) (i1 : -9223372036854775808 ≤ id) (i2 : id ≤ 9223372036854775807) :
    Calls Tryz.prog 70 #[v, .int .i64 id] w fun e w' => e = .returned (frV ((wayF L id).getLastD frNone)) ∧ Below w.heap.size w w' := by
  have HT0 : Hid (∀ W, Below w.heap.size w W → Calls Tryz.prog 76 #[v] W fun e w' => ∃ bm, e = .returned (.map (some bm)) ∧ W.heap.size ≤ bm ∧ TreeIs w' bm 10 L ∧ Below W.heap.size W w') := fun W hb => treeOf_any v L B W (hs.below hb) hL
  have HX0 : Hid (BoxV (w.alloc (.cells #[.int .i64 0, .int .i64 0, .string ⟨#[]⟩, .string ⟨#[]⟩, .int .i64 0, .string ⟨#[]⟩, .bool false, .bool false, .int .i64 0] 45)) w.heap.size [.int .i64 0, .int .i64 0, .string ⟨#[]⟩, .string ⟨#[]⟩, .int .i64 0, .string ⟨#[]⟩, .bool false, .bool false, .int .i64 0]) := boxV_new w [.int .i64 0, .int .i64 0, .string ⟨#[]⟩, .string ⟨#[]⟩, .int .i64 0, .string ⟨#[]⟩, .bool false, .bool false, .int .i64 0] 45
  have HY0 : Hid (BoxV ((w.alloc (.cells #[.int .i64 0, .int .i64 0, .string ⟨#[]⟩, .string ⟨#[]⟩, .int .i64 0, .string ⟨#[]⟩, .bool false, .bool false, .int .i64 0] 45)).alloc (.cells #[.int .i64 0, .int .i64 0, .string ⟨#[]⟩, .string ⟨#[]⟩, .int .i64 0, .string ⟨#[]⟩, .bool false, .bool false, .int .i64 0] 45)) (w.heap.size + 1) [.int .i64 0, .int .i64 0, .string ⟨#[]⟩, .string ⟨#[]⟩, .int .i64 0, .string ⟨#[]⟩, .bool false, .bool false, .int .i64 0]) := by
    have h := boxV_new (w.alloc (.cells #[.int .i64 0, .int .i64 0, .string ⟨#[]⟩, .string ⟨#[]⟩, .int .i64 0, .string ⟨#[]⟩, .bool false, .bool false, .int .i64 0] 45)) [.int .i64 0, .int .i64 0, .string ⟨#[]⟩, .string ⟨#[]⟩, .int .i64 0, .string ⟨#[]⟩, .bool false, .bool false, .int .i64 0] 45
    rw [World.size_alloc] at h
    exact h
  have HB0 : Hid (Below w.heap.size w ((w.alloc (.cells #[.int .i64 0, .int .i64 0, .string ⟨#[]⟩, .string ⟨#[]⟩, .int .i64 0, .string ⟨#[]⟩, .bool false, .bool false, .int .i64 0] 45)).alloc (.cells #[.int .i64 0, .int .i64 0, .string ⟨#[]⟩, .string ⟨#[]⟩, .int .i64 0, .string ⟨#[]⟩, .bool false, .bool false, .int .i64 0] 45))) := ((Below.refl _ _).alloc (Nat.le_refl _) _).alloc (by simp) _
  refine (callsIn_wide (n := 6)).1 ?_
  refine callsIn_of_wp_marks Tryz.func70 rfl trivial ?_ rfl
  simp only [Tryz.ntmps70, List.size_toArray, List.length_cons, List.length_nil, Nat.reduceAdd, Nat.reduceSub, Array.replicate_succ, Array.replicate_zero, List.push_toArray, List.append_toArray, List.nil_append, List.cons_append]
  gi_wp2_with fail
  refine ⟨trivial, ?_⟩
  refine (callsIn_wide.2 (HT0.out _ HB0.out)).mono ?_
  rintro e w1 ⟨bm, rfl, hbm, hm1, hb1⟩
  have HX1 : Hid (BoxV w1 w.heap.size [.int .i64 0, .int .i64 0, .string ⟨#[]⟩, .string ⟨#[]⟩, .int .i64 0, .string ⟨#[]⟩, .bool false, .bool false, .int .i64 0]) := (HX0.out.alloc _).below hb1
  have HY1 : Hid (BoxV w1 (w.heap.size + 1) [.int .i64 0, .int .i64 0, .string ⟨#[]⟩, .string ⟨#[]⟩, .int .i64 0, .string ⟨#[]⟩, .bool false, .bool false, .int .i64 0]) := HY0.out.below hb1
  have HB1 : Hid (Below w.heap.size w w1) := HB0.out.trans (hb1.mono HB0.out.size)
  have HM1 : Hid (TreeIs w1 bm 10 L) := hm1
  have hbm2 : w.heap.size + 2 ≤ bm := by simpa using hbm
  clear hb1 hm1 HX0 HY0 HB0 hbm HT0
  gi_wp2_with fail
  refine ⟨trivial, ?_⟩
  refine (callsIn_wide.2 (outward_any bm id _)).mono ?_
  rintro e w2 ⟨rfl, rfl⟩
  gi_wp2_with fail
  obtain ⟨W2, hW2⟩ : ∃ W2, W2 = (w1.alloc (.cells #[.map (some bm)] 92)).alloc (.cells #[.int .i64 id] 2) := ⟨_, rfl⟩
  rw [← hW2]
  have hb2 : Below w1.heap.size w1 W2 := by rw [hW2]; exact ((Below.refl _ _).alloc (Nat.le_refl _) _).alloc (by simp) _
  have z2 : W2.heap.size = w1.heap.size + 1 + 1 := by rw [hW2]; simp
  have ht2 : W2.cell? ⟨w1.heap.size, 0, none⟩ = some (.map (some bm)) := by rw [hW2]; exact (cell_under9 _ _ _ _ (by simp)).trans (by simp)
  have hi2 : W2.cell? ⟨w1.heap.size + 1, 0, none⟩ = some (.int .i64 id) := by rw [hW2]; exact (World.cell?_alloc_at _ _ _ _ (by simp)).trans rfl
  have hX2 : BoxV W2 w.heap.size [.int .i64 0, .int .i64 0, .string ⟨#[]⟩, .string ⟨#[]⟩, .int .i64 0, .string ⟨#[]⟩, .bool false, .bool false, .int .i64 0] := HX1.out.below hb2
  have hY2 : BoxV W2 (w.heap.size + 1) [.int .i64 0, .int .i64 0, .string ⟨#[]⟩, .string ⟨#[]⟩, .int .i64 0, .string ⟨#[]⟩, .bool false, .bool false, .int .i64 0] := HY1.out.below hb2
  have hm2 : TreeIs W2 bm 10 L := HM1.out.below hb2
  have hB2 : Below w.heap.size w W2 := HB1.out.trans (hb2.mono HB1.out.size)
  have zw : w.heap.size + 1 < w1.heap.size := HY1.out.1
  have zb : bm < w1.heap.size := HM1.out.lt
  clear hW2 hb2 HX1 HY1 HM1 HB1
  generalize hrb : w.heap.size = rb at *
  generalize htb : rb + 1 = tb at *
  generalize hbt : w1.heap.size = bt at *
  generalize hbi : bt + 1 = bi at *
  refine wpIn_rangeFunc_ownH rfl (by omega) (gf := 109) (lb := #[.pointer (some ⟨bt, 0, none⟩), .pointer (some ⟨bi, 0, none⟩)]) rfl trivial (enters_of Tryz.func109 (by kernel_rfl) rfl)
    (outward_stops (6 - 1) (by omega) bt bi bm (some tb) L hL id i1 i2 W2 ht2 hi2 hm2 (by omega) (by omega) (fun e => by have := Option.some.inj e; omega) (fun e => by have := Option.some.inj e; omega) (fun r e => by have := Option.some.inj e; omega)) (fun h k => KpF.trans h k) (KpF.put (Nat.le_refl _)) (Below.refl _ _) (fun _ => rfl)
    (fun pre W => ((BoxV W rb [.int .i64 0, .int .i64 0, .string ⟨#[]⟩, .string ⟨#[]⟩, .int .i64 0, .string ⟨#[]⟩, .bool false, .bool false, .int .i64 0] ∧ BoxV W tb (frVals (pre.getLastD frNone))) ∧ W2.heap.size ≤ W.heap.size) ∧ Below rb w W)
    (fun _ _ _ => False)
    (OwnFrom.and (Own.from (fun s X Y row hs hg hr => ⟨⟨hs.1.1.kept hg hr, hs.1.2.kept hg hr⟩, Nat.le_trans hs.2 hg.size⟩) _) (ownFrom_below (Nat.le_of_eq hrb.symm) (by omega)))
    (fun _ _ _ _ _ hs _ _ => hs)
    ⟨⟨⟨hX2, hY2⟩, Nat.le_refl _⟩, hB2⟩
    (fun x a' W => ∃ Bx, W2.heap.size ≤ Bx ∧ BoxV W Bx (frVals x) ∧ a' = { tmps := #[v, .int .i64 id, undef, undef, .pointer (some ⟨rb, 0, none⟩), .pointer (some ⟨tb, 0, none⟩), .pointer (some ⟨Bx, 0, none⟩), v, .map (some bm), .int .i64 id, .func (.func 109) #[] #[.pointer (some ⟨bt, 0, none⟩), .pointer (some ⟨bi, 0, none⟩)], frV x, undef, undef], defers := [] })
    (fun x a' s X Y row hs hg hr => by obtain ⟨Bx, h1, h2, h3⟩ := hs; exact ⟨Bx, h1, h2.kept hg (fun r e => (hr r e).2), h3⟩) ?assign ?body ?done ?stop
  case assign =>
    rintro l pre x W K ⟨⟨⟨h1, h2⟩, hz⟩, h3⟩ hK
    have hx := boxV_new W (frVals x) 45
    unfold frVals frV at *
    dsimp only at *
    gi_wp2
    exact hK _ _ ((KeepsOthers.alloc _ _).from _) (KpF.of_below ((Below.refl _ _).alloc (Nat.le_refl _) _)) ⟨⟨⟨h1.alloc _, h2.alloc _⟩, by simp; omega⟩, h3.alloc (Nat.le_of_lt h1.1) _⟩ ⟨W.heap.size, hz, hx, rfl⟩
  case body =>
    rintro l pre x a' W hl ⟨r, hr⟩ ⟨⟨⟨h1, h2⟩, hz⟩, h3⟩ ⟨Bx, hBx, bX, rfl⟩ hlt
    have HE : Hid ((pre ++ [x]).getLastD frNone = x) := by show _ = _; simp
    have H1 : Hid (BoxV W rb [.int .i64 0, .int .i64 0, .string ⟨#[]⟩, .string ⟨#[]⟩, .int .i64 0, .string ⟨#[]⟩, .bool false, .bool false, .int .i64 0]) := h1
    have H2 : Hid (BoxV W tb (frVals (pre.getLastD frNone))) := h2
    have H3 : Hid (Below rb w W) := h3
    have HNE : Hid (tb ≠ rb) := by show tb ≠ rb; omega
    clear h1 h2 h3 hr hlt
    generalize pre.getLastD frNone = p at *
    obtain ⟨pid, ppa, psc, pho, ppo, ppt, psb, pfl, ptc⟩ := p
    obtain ⟨xid, xpa, xsc, xho, xpo, xpt, xsb, xfl, xtc⟩ := x
    unfold frVals at *
    dsimp only at *
    have x0 : W.cell? ⟨Bx, 0, none⟩ = some (.int .i64 xid) := bX.at (i := 0) rfl
    have x1 : W.cell? ⟨Bx, 1, none⟩ = some (.int .i64 xpa) := bX.at (i := 1) rfl
    have x2 : W.cell? ⟨Bx, 2, none⟩ = some (.string xsc) := bX.at (i := 2) rfl
    have x3 : W.cell? ⟨Bx, 3, none⟩ = some (.string xho) := bX.at (i := 3) rfl
    have x4 : W.cell? ⟨Bx, 4, none⟩ = some (.int .i64 xpo) := bX.at (i := 4) rfl
    have x5 : W.cell? ⟨Bx, 5, none⟩ = some (.string xpt) := bX.at (i := 5) rfl
    have x6 : W.cell? ⟨Bx, 6, none⟩ = some (.bool xsb) := bX.at (i := 6) rfl
    have x7 : W.cell? ⟨Bx, 7, none⟩ = some (.bool xfl) := bX.at (i := 7) rfl
    have x8 : W.cell? ⟨Bx, 8, none⟩ = some (.int .i64 xtc) := bX.at (i := 8) rfl
    have y0 : W.cell? ⟨tb, 0, none⟩ = some (.int .i64 pid) := H2.out.at (i := 0) rfl
    have yf0 : W.frozen? ⟨tb, 0, none⟩ = false := H2.out.free (i := 0) rfl
    have y1 : W.cell? ⟨tb, 1, none⟩ = some (.int .i64 ppa) := H2.out.at (i := 1) rfl
    have yf1 : W.frozen? ⟨tb, 1, none⟩ = false := H2.out.free (i := 1) rfl
    have y2 : W.cell? ⟨tb, 2, none⟩ = some (.string psc) := H2.out.at (i := 2) rfl
    have yf2 : W.frozen? ⟨tb, 2, none⟩ = false := H2.out.free (i := 2) rfl
    have y3 : W.cell? ⟨tb, 3, none⟩ = some (.string pho) := H2.out.at (i := 3) rfl
    have yf3 : W.frozen? ⟨tb, 3, none⟩ = false := H2.out.free (i := 3) rfl
    have y4 : W.cell? ⟨tb, 4, none⟩ = some (.int .i64 ppo) := H2.out.at (i := 4) rfl
    have yf4 : W.frozen? ⟨tb, 4, none⟩ = false := H2.out.free (i := 4) rfl
    have y5 : W.cell? ⟨tb, 5, none⟩ = some (.string ppt) := H2.out.at (i := 5) rfl
    have yf5 : W.frozen? ⟨tb, 5, none⟩ = false := H2.out.free (i := 5) rfl
    have y6 : W.cell? ⟨tb, 6, none⟩ = some (.bool psb) := H2.out.at (i := 6) rfl
    have yf6 : W.frozen? ⟨tb, 6, none⟩ = false := H2.out.free (i := 6) rfl
    have y7 : W.cell? ⟨tb, 7, none⟩ = some (.bool pfl) := H2.out.at (i := 7) rfl
    have yf7 : W.frozen? ⟨tb, 7, none⟩ = false := H2.out.free (i := 7) rfl
    have y8 : W.cell? ⟨tb, 8, none⟩ = some (.int .i64 ptc) := H2.out.at (i := 8) rfl
    have yf8 : W.frozen? ⟨tb, 8, none⟩ = false := H2.out.free (i := 8) rfl
    clear bX
    gi_wp2
    refine ⟨(KeepsOthers.from (KeepsOthers.trans (KeepsOthers.trans (KeepsOthers.trans (KeepsOthers.trans (KeepsOthers.trans (KeepsOthers.trans (KeepsOthers.trans (KeepsOthers.trans (KeepsOthers.trans (KeepsOthers.refl _) (KeepsOthers.setCell _ _ _)) (KeepsOthers.setCell _ _ _)) (KeepsOthers.setCell _ _ _)) (KeepsOthers.setCell _ _ _)) (KeepsOthers.setCell _ _ _)) (KeepsOthers.setCell _ _ _)) (KeepsOthers.setCell _ _ _)) (KeepsOthers.setCell _ _ _)) (KeepsOthers.setCell _ _ _)) _), (KpF.set (KpF.set (KpF.set (KpF.set (KpF.set (KpF.set (KpF.set (KpF.set (KpF.set (KpF.refl _ _ _)))))))))), ⟨⟨⟨(BoxV.set_other (BoxV.set_other (BoxV.set_other (BoxV.set_other (BoxV.set_other (BoxV.set_other (BoxV.set_other (BoxV.set_other (BoxV.set_other H1.out HNE.out) HNE.out) HNE.out) HNE.out) HNE.out) HNE.out) HNE.out) HNE.out) HNE.out), ?_⟩, by simpa using hz⟩, (Below.setCell (Below.setCell (Below.setCell (Below.setCell (Below.setCell (Below.setCell (Below.setCell (Below.setCell (Below.setCell H3.out (show rb ≤ tb from by omega) _) (show rb ≤ tb from by omega) _) (show rb ≤ tb from by omega) _) (show rb ≤ tb from by omega) _) (show rb ≤ tb from by omega) _) (show rb ≤ tb from by omega) _) (show rb ≤ tb from by omega) _) (show rb ≤ tb from by omega) _) (show rb ≤ tb from by omega) _)⟩⟩
    rw [HE.out]
    exact (BoxV.set (BoxV.set (BoxV.set (BoxV.set (BoxV.set (BoxV.set (BoxV.set (BoxV.set (BoxV.set H2.out 0 (by simp) _) 1 (by simp) _) 2 (by simp) _) 3 (by simp) _) 4 (by simp) _) 5 (by simp) _) 6 (by simp) _) 7 (by simp) _) 8 (by simp) _)
  case done =>
    rintro D ys W hD rfl ⟨⟨⟨h1, h2⟩, hz⟩, h3⟩ hK
    have HK : Hid (W.heap[D]? = some (.deferred (some []))) := hK
    have H1 : Hid (BoxV W rb [.int .i64 0, .int .i64 0, .string ⟨#[]⟩, .string ⟨#[]⟩, .int .i64 0, .string ⟨#[]⟩, .bool false, .bool false, .int .i64 0]) := h1
    have H3 : Hid (Below rb w W) := h3
    clear hK h3
    generalize hp : (wayF L id).getLastD frNone = p at *
    obtain ⟨pid, ppa, psc, pho, ppo, ppt, psb, pfl, ptc⟩ := p
    unfold frVals at *
    dsimp only at *
    have y0 : W.cell? ⟨tb, 0, none⟩ = some (.int .i64 pid) := h2.at (i := 0) rfl
    have y1 : W.cell? ⟨tb, 1, none⟩ = some (.int .i64 ppa) := h2.at (i := 1) rfl
    have y2 : W.cell? ⟨tb, 2, none⟩ = some (.string psc) := h2.at (i := 2) rfl
    have y3 : W.cell? ⟨tb, 3, none⟩ = some (.string pho) := h2.at (i := 3) rfl
    have y4 : W.cell? ⟨tb, 4, none⟩ = some (.int .i64 ppo) := h2.at (i := 4) rfl
    have y5 : W.cell? ⟨tb, 5, none⟩ = some (.string ppt) := h2.at (i := 5) rfl
    have y6 : W.cell? ⟨tb, 6, none⟩ = some (.bool psb) := h2.at (i := 6) rfl
    have y7 : W.cell? ⟨tb, 7, none⟩ = some (.bool pfl) := h2.at (i := 7) rfl
    have y8 : W.cell? ⟨tb, 8, none⟩ = some (.int .i64 ptc) := h2.at (i := 8) rfl
    have z0 : W.cell? ⟨rb, 0, none⟩ = some (.int .i64 0) := H1.out.at (i := 0) rfl
    have zf0 : W.frozen? ⟨rb, 0, none⟩ = false := H1.out.free (i := 0) rfl
    have z1 : W.cell? ⟨rb, 1, none⟩ = some (.int .i64 0) := H1.out.at (i := 1) rfl
    have zf1 : W.frozen? ⟨rb, 1, none⟩ = false := H1.out.free (i := 1) rfl
    have z2 : W.cell? ⟨rb, 2, none⟩ = some (.string ⟨#[]⟩) := H1.out.at (i := 2) rfl
    have zf2 : W.frozen? ⟨rb, 2, none⟩ = false := H1.out.free (i := 2) rfl
    have z3 : W.cell? ⟨rb, 3, none⟩ = some (.string ⟨#[]⟩) := H1.out.at (i := 3) rfl
    have zf3 : W.frozen? ⟨rb, 3, none⟩ = false := H1.out.free (i := 3) rfl
    have z4 : W.cell? ⟨rb, 4, none⟩ = some (.int .i64 0) := H1.out.at (i := 4) rfl
    have zf4 : W.frozen? ⟨rb, 4, none⟩ = false := H1.out.free (i := 4) rfl
    have z5 : W.cell? ⟨rb, 5, none⟩ = some (.string ⟨#[]⟩) := H1.out.at (i := 5) rfl
    have zf5 : W.frozen? ⟨rb, 5, none⟩ = false := H1.out.free (i := 5) rfl
    have z6 : W.cell? ⟨rb, 6, none⟩ = some (.bool false) := H1.out.at (i := 6) rfl
    have zf6 : W.frozen? ⟨rb, 6, none⟩ = false := H1.out.free (i := 6) rfl
    have z7 : W.cell? ⟨rb, 7, none⟩ = some (.bool false) := H1.out.at (i := 7) rfl
    have zf7 : W.frozen? ⟨rb, 7, none⟩ = false := H1.out.free (i := 7) rfl
    have z8 : W.cell? ⟨rb, 8, none⟩ = some (.int .i64 0) := H1.out.at (i := 8) rfl
    have zf8 : W.frozen? ⟨rb, 8, none⟩ = false := H1.out.free (i := 8) rfl
    clear h1 h2
    gi_wp2
    obtain ⟨Wz, hWz⟩ : ∃ Wz, Wz = (((((((((W.setCell ⟨rb, 0, none⟩ (.int .i64 pid)).setCell ⟨rb, 1, none⟩ (.int .i64 ppa)).setCell ⟨rb, 2, none⟩ (.string psc)).setCell ⟨rb, 3, none⟩ (.string pho)).setCell ⟨rb, 4, none⟩ (.int .i64 ppo)).setCell ⟨rb, 5, none⟩ (.string ppt)).setCell ⟨rb, 6, none⟩ (.bool psb)).setCell ⟨rb, 7, none⟩ (.bool pfl)).setCell ⟨rb, 8, none⟩ (.int .i64 ptc)) := ⟨_, rfl⟩
    rw [← hWz]
    have hKz : Wz.heap[D]? = some (.deferred (some [])) := by
      rw [hWz]
      exact ((KeepsOthers.trans (KeepsOthers.trans (KeepsOthers.trans (KeepsOthers.trans (KeepsOthers.trans (KeepsOthers.trans (KeepsOthers.trans (KeepsOthers.trans (KeepsOthers.trans (KeepsOthers.refl _) (KeepsOthers.setCell _ _ _)) (KeepsOthers.setCell _ _ _)) (KeepsOthers.setCell _ _ _)) (KeepsOthers.setCell _ _ _)) (KeepsOthers.setCell _ _ _)) (KeepsOthers.setCell _ _ _)) (KeepsOthers.setCell _ _ _)) (KeepsOthers.setCell _ _ _)) (KeepsOthers.setCell _ _ _))).same D _ HK.out rfl
    have hZ : BoxV Wz rb [.int .i64 pid, .int .i64 ppa, .string psc, .string pho, .int .i64 ppo, .string ppt, .bool psb, .bool pfl, .int .i64 ptc] := by rw [hWz]; exact (BoxV.set (BoxV.set (BoxV.set (BoxV.set (BoxV.set (BoxV.set (BoxV.set (BoxV.set (BoxV.set H1.out 0 (by simp) _) 1 (by simp) _) 2 (by simp) _) 3 (by simp) _) 4 (by simp) _) 5 (by simp) _) 6 (by simp) _) 7 (by simp) _) 8 (by simp) _)
    have hBz : Below rb w Wz := by rw [hWz]; exact (Below.setCell (Below.setCell (Below.setCell (Below.setCell (Below.setCell (Below.setCell (Below.setCell (Below.setCell (Below.setCell H3.out (Nat.le_refl _) _) (Nat.le_refl _) _) (Nat.le_refl _) _) (Nat.le_refl _) _) (Nat.le_refl _) _) (Nat.le_refl _) _) (Nat.le_refl _) _) (Nat.le_refl _) _) (Nat.le_refl _) _)
    clear hWz
    have hQ : BoxV (Wz.putObj D (.deferred none)) rb [.int .i64 pid, .int .i64 ppa, .string psc, .string pho, .int .i64 ppo, .string ppt, .bool psb, .bool pfl, .int .i64 ptc] := hZ.kept (grownBy_putObj' Wz D _) (fun r e => by cases e; exact ⟨_, hKz, rfl⟩)
    refine ⟨by simp, .inl ⟨_, _, rfl, run_takeDeferred hKz, ?_⟩⟩
    have q0 : (Wz.putObj D (.deferred none)).cell? ⟨rb, 0, none⟩ = some (.int .i64 pid) := hQ.at (i := 0) rfl
    have q1 : (Wz.putObj D (.deferred none)).cell? ⟨rb, 1, none⟩ = some (.int .i64 ppa) := hQ.at (i := 1) rfl
    have q2 : (Wz.putObj D (.deferred none)).cell? ⟨rb, 2, none⟩ = some (.string psc) := hQ.at (i := 2) rfl
    have q3 : (Wz.putObj D (.deferred none)).cell? ⟨rb, 3, none⟩ = some (.string pho) := hQ.at (i := 3) rfl
    have q4 : (Wz.putObj D (.deferred none)).cell? ⟨rb, 4, none⟩ = some (.int .i64 ppo) := hQ.at (i := 4) rfl
    have q5 : (Wz.putObj D (.deferred none)).cell? ⟨rb, 5, none⟩ = some (.string ppt) := hQ.at (i := 5) rfl
    have q6 : (Wz.putObj D (.deferred none)).cell? ⟨rb, 6, none⟩ = some (.bool psb) := hQ.at (i := 6) rfl
    have q7 : (Wz.putObj D (.deferred none)).cell? ⟨rb, 7, none⟩ = some (.bool pfl) := hQ.at (i := 7) rfl
    have q8 : (Wz.putObj D (.deferred none)).cell? ⟨rb, 8, none⟩ = some (.int .i64 ptc) := hQ.at (i := 8) rfl
    exact ⟨.agg #[.int .i64 pid, .int .i64 ppa, .string psc, .string pho, .int .i64 ppo, .string ppt, .bool psb, .bool pfl, .int .i64 ptc], by simp [results, Tryz.results70, go_sem, q0, q1, q2, q3, q4, q5, q6, q7, q8], by rw [hp]; rfl, by rw [hrb]; exact hBz.trans (belowK_b (w := W2) (by omega) Wz D _ _ hD hKz rfl rfl)⟩
  case stop =>
    rintro D c pre W _ _ h _
    exact h.elim
end Go.Proofs.YtnpaekjiafaahaaGreatDoor

/- The digits of a number, as the library tells them. -/
namespace Go.Proofs.YtnpaekjiafaahaaGreatDoor
open Go.RowKit

/-- the library's powers of ten -/
def PowI (w : World) : Prop := Lib.TabIs Tryz.prog w "internal/strconv.uint64pow10" .u64 Lib.pow10Tab
theorem PowI.on {w w' : World} (h : PowI w) (hb : Below w.heap.size w w') : PowI w' := Lib.tabBelow_of_tabIs h w' hb

theorem below_grow (w : World) (k : Nat) (os : Array Obj) : Below w.heap.size w (Sort.grow (w.drewN k) os) :=
  ⟨rfl, rfl, rfl, by simp [Sort.grow], fun i hi => by
    show ((w.drewN k).heap ++ os)[i]? = _
    rw [Array.getElem?_append_left (show i < (w.drewN k).heap.size from hi)]
    rfl⟩
theorem dec_call (n : Int) (w : World) (hT : PowI w) (h0 : 0 ≤ n) (h : n ≤ 9223372036854775807) :
    Calls Tryz.prog 104 #[.int .i64 n, .int .i64 10] w fun e w' => e = .returned (.string (decB n)) ∧ Below w.heap.size w w' := by
  obtain ⟨m, rfl⟩ := Int.eq_ofNat_of_zero_le h0
  refine (Any.strconv_FormatInt_10 Tryz.lays173 (m : Int) (by omega) h w hT).mono ?_
  rintro e w' ⟨rfl, k, os, rfl⟩
  exact ⟨ret_text (dec_lib m), below_grow w k os⟩

end Go.Proofs.YtnpaekjiafaahaaGreatDoor

/- The walks of the program's placeText and UrlText. -/
namespace Go.Proofs.YtnpaekjiafaahaaGreatDoor
open Go.RowKit

theorem place_facts {sc ho : ByteArray} {po : Int} (h : placeB sc ho po = true) : schemeB sc = true ∧ sc.size ≤ 5 ∧ ho.size ≤ 100 ∧ 1 ≤ po ∧ po ≤ 65535 := by
  unfold placeB at h
  simp only [Bool.and_eq_true, decide_eq_true_eq] at h
  obtain ⟨⟨h1, h2⟩, h3, h4⟩ := h
  refine ⟨h1, schemeB_size h1, ?_, h3, h4⟩
  by_cases hz : 100 < ho.size
  · rw [hostB_size hz] at h2; cases h2
  · omega
set_option maxRecDepth 10000 in
set_option maxHeartbeats 400000 in
theorem placeText_any (sc ho : ByteArray) (po : Int) (w : World) (hT : PowI w) (hp : placeB sc ho po = true) :
    Calls Tryz.prog 105 #[.string sc, .string ho, .int .i64 po] w fun e w' => e = .returned (.string (placeT sc ho po)) ∧ Below w.heap.size w w' := by
  obtain ⟨hb1, hs, hh, h1, h2⟩ := place_facts hp
  have H1 := fun W => ownPort_any sc W
  have H2 := dec_call po w hT (by omega) (by omega)
  have hd := decB_size (n := po) (by omega) (by omega)
  have ha : (sc ++ ⟨#[58, 47, 47]⟩ : ByteArray).size ≤ 1003 := by rw [ByteArray.size_append]; show sc.size + 3 ≤ 1003; omega
  have hb : (sc ++ ⟨#[58, 47, 47]⟩ ++ ho : ByteArray).size ≤ 2003 := by rw [ByteArray.size_append]; omega
  have hc : (sc ++ ⟨#[58, 47, 47]⟩ ++ ho ++ ⟨#[58]⟩ : ByteArray).size ≤ 2004 := by rw [ByteArray.size_append]; show _ + 1 ≤ 2004; omega
  have HP : Hid (placeT sc ho po = if po = usualP sc then sc ++ ⟨#[58, 47, 47]⟩ ++ ho else sc ++ ⟨#[58, 47, 47]⟩ ++ ho ++ ⟨#[58]⟩ ++ decB po) := rfl
  rw [ownP_usual hb1] at H1
  generalize usualP sc = us at *
  generalize decB po = d at *
  have G1 : Hid (∀ W, Calls Tryz.prog 115 #[.string sc] W fun e w' => e = .returned (.int .i64 us) ∧ w' = W) := H1
  have G2 : Hid (Calls Tryz.prog 104 #[.int .i64 po, .int .i64 10] w fun e w' => e = .returned (.string d) ∧ Below w.heap.size w w') := H2
  clear H1 H2 h1 h2 hp hb1 hT
  by_cases he : po = us
  · have q : (po == us) = true := by rw [beq_iff_eq]; exact he
    have HE : Hid (po = us) := he
    clear he
    go_enter Tryz.func105, Tryz.ntmps105
    go_wp2_with (go_at_call 115; refine (G1.out _).mono ?_; rintro e w1 ⟨rfl, rfl⟩)
    go_ret
    exact ⟨ret_text (by rw [HP.out, if_pos HE.out]), Below.refl _ _⟩
  · have q : (po == us) = false := by rw [beq_eq_false_iff_ne]; exact he
    have HE : Hid (¬ po = us) := he
    clear he
    go_enter Tryz.func105, Tryz.ntmps105
    go_wp2_with (first | (go_at_call 115; refine (G1.out _).mono ?_; rintro e w1 ⟨rfl, rfl⟩) | (go_at_call 104; refine G2.out.mono ?_; rintro e w2 ⟨rfl, hb2⟩))
    go_ret
    exact ⟨ret_text (by rw [HP.out, if_neg HE.out]), hb2⟩

end Go.Proofs.YtnpaekjiafaahaaGreatDoor

/- The walks of the program's OriginRight, OriginOf, OriginText and OriginSame. -/
namespace Go.Proofs.YtnpaekjiafaahaaGreatDoor
open Go.RowKit

set_option maxRecDepth 10000 in
set_option maxHeartbeats 400000 in
theorem originRight_any (sc ho : ByteArray) (po no : Int) (w : World) (hG : MaxI w) (hh : ho.size ≤ 1048576) :
    Calls Tryz.prog 103 #[originV sc ho po no] w fun e w' => e = .returned (.bool (originB sc ho po no)) ∧ Below w.heap.size w w' := by
  unfold originV
  have HG : Hid (∀ o, MaxI (w.alloc o)) := fun o => hG.on ((Below.refl _ _).alloc (Nat.le_refl _) _)
  clear hG
  by_cases h0 : no = 0
  · have q : (no == 0) = true := by rw [beq_iff_eq]; exact h0
    have H1 := fun W (h : MaxI W) => placeRight_any sc ho po W h hh
    have HP : Hid (originB sc ho po no = placeB sc ho po) := by show _ = _; rw [originB, if_pos h0]
    clear h0
    generalize placeB sc ho po = b at *
    have G1 : Hid (∀ W, MaxI W → Calls Tryz.prog 88 #[.string sc, .string ho, .int .i64 po] W fun e w' => e = .returned (.bool b) ∧ Below W.heap.size W w') := H1
    clear H1
    go_enter Tryz.func103, Tryz.ntmps103
    go_wp2_with fail
    refine (G1.out _ (HG.out _)).mono ?_
    rintro e w1 ⟨rfl, hb⟩
    go_wp2
    go_ret
    exact ⟨ret_bool HP.out.symm, ((Below.refl _ _).alloc (Nat.le_refl _) _).trans (hb.mono (by simp))⟩
  · have q : (no == 0) = false := by rw [beq_eq_false_iff_ne]; exact h0
    have HP : Hid (originB sc ho po no = ((decide (1 ≤ no) && decide (no ≤ 1000000)) && sc.toList.isEmpty && ho.toList.isEmpty && (po == 0))) := by show _ = _; rw [originB, if_neg h0]
    clear h0
    cases q1 : decide (1 ≤ no) with
    | false =>
      go_enter Tryz.func103, Tryz.ntmps103
      go_wp2
      go_ret
      exact ⟨ret_bool (by rw [HP.out, q1]; rfl), (Below.refl _ _).alloc (Nat.le_refl _) _⟩
    | true =>
      cases q2 : decide (no ≤ 1000000) with
      | false =>
        go_enter Tryz.func103, Tryz.ntmps103
        go_wp2
        go_ret
        exact ⟨ret_bool (by rw [HP.out, q1, q2]; rfl), (Below.refl _ _).alloc (Nat.le_refl _) _⟩
      | true =>
        go_enter Tryz.func103, Tryz.ntmps103
        go_wp2
        all_goals
          go_ret
          exact ⟨ret_bool (by rw [HP.out, q1, q2]; simp [*]), (Below.refl _ _).alloc (Nat.le_refl _) _⟩
set_option maxRecDepth 10000 in
set_option maxHeartbeats 400000 in
theorem originText_any (sc ho : ByteArray) (po no : Int) (w : World) (hG : MaxI w) (hT : PowI w) (hh : ho.size ≤ 1048576) :
    Calls Tryz.prog 71 #[originV sc ho po no] w fun e w' => e = .returned (.string (originT sc ho po no)) ∧ Below w.heap.size w w' := by
  have H1 := fun W (h : MaxI W) => originRight_any sc ho po no W h hh
  have HG : Hid (∀ o, MaxI (w.alloc o)) := fun o => hG.on ((Below.refl _ _).alloc (Nat.le_refl _) _)
  have HT0 : Hid (PowI w) := hT
  clear hG hT
  cases hr : originB sc ho po no with
  | false =>
    have HT : Hid (originT sc ho po no = ⟨#[]⟩) := by show _ = _; rw [originT, hr]; simp
    rw [hr] at H1
    unfold originV at H1 ⊢
    have G1 : Hid (∀ W, MaxI W → Calls Tryz.prog 103 #[.agg #[.string sc, .string ho, .int .i64 po, .int .i64 no]] W fun e w' => e = .returned (.bool false) ∧ Below W.heap.size W w') := H1
    clear H1 hr
    go_enter Tryz.func71, Tryz.ntmps71
    go_wp2_with fail
    refine (G1.out _ (HG.out _)).mono ?_
    rintro e w1 ⟨rfl, hb⟩
    go_wp2
    go_ret
    exact ⟨ret_text HT.out.symm, ((Below.refl _ _).alloc (Nat.le_refl _) _).trans (hb.mono (by simp))⟩
  | true =>
    have HT : Hid (originT sc ho po no = if no = 0 then placeT sc ho po else ⟨#[110, 117, 108, 108, 35]⟩ ++ decB no) := by show _ = _; rw [originT, hr]; simp
    have hr2 := hr
    rw [hr] at H1
    unfold originV at H1 ⊢
    have G1 : Hid (∀ W, MaxI W → Calls Tryz.prog 103 #[.agg #[.string sc, .string ho, .int .i64 po, .int .i64 no]] W fun e w' => e = .returned (.bool true) ∧ Below W.heap.size W w') := H1
    clear H1 hr
    by_cases h0 : no = 0
    · rw [originB, if_pos h0] at hr2
      have q : (no != 0) = false := by rw [bne_eq_false_iff_eq]; exact h0
      rw [if_pos h0] at HT
      have H2 := fun W (h : PowI W) => placeText_any sc ho po W h hr2
      clear h0 hr2
      generalize placeT sc ho po = d at *
      have G2 : Hid (∀ W, PowI W → Calls Tryz.prog 105 #[.string sc, .string ho, .int .i64 po] W fun e w' => e = .returned (.string d) ∧ Below W.heap.size W w') := H2
      clear H2
      go_enter Tryz.func71, Tryz.ntmps71
      go_wp2_with fail
      refine (G1.out _ (HG.out _)).mono ?_
      rintro e w1 ⟨rfl, hb⟩
      have hz1 : w.heap.size < w1.heap.size := by have := hb.size; simp at this; omega
      have HB : Hid (Below w.heap.size w w1) := ((Below.refl _ _).alloc (Nat.le_refl _) _).trans (hb.mono (by simp))
      obtain ⟨hc, hf⟩ := bcell hb
      go_wp2_with fail
      refine (G2.out _ (HT0.out.on HB.out)).mono ?_
      rintro e w2 ⟨rfl, hb2⟩
      go_wp2
      go_ret
      exact ⟨ret_text HT.out.symm, HB.out.trans (hb2.mono (Nat.le_of_lt hz1))⟩
    · rw [originB, if_neg h0] at hr2
      simp only [Bool.and_eq_true, decide_eq_true_eq] at hr2
      have q : (no != 0) = true := by rw [bne_iff_ne]; exact h0
      rw [if_neg h0] at HT
      have hd := decB_size (n := no) (by omega) (by omega)
      have H2 := fun W (h : PowI W) => dec_call no W h (by omega) (by omega)
      clear h0 hr2
      generalize decB no = d at *
      have G2 : Hid (∀ W, PowI W → Calls Tryz.prog 104 #[.int .i64 no, .int .i64 10] W fun e w' => e = .returned (.string d) ∧ Below W.heap.size W w') := H2
      clear H2
      go_enter Tryz.func71, Tryz.ntmps71
      go_wp2_with fail
      refine (G1.out _ (HG.out _)).mono ?_
      rintro e w1 ⟨rfl, hb⟩
      have hz1 : w.heap.size < w1.heap.size := by have := hb.size; simp at this; omega
      have HB : Hid (Below w.heap.size w w1) := ((Below.refl _ _).alloc (Nat.le_refl _) _).trans (hb.mono (by simp))
      obtain ⟨hc, hf⟩ := bcell hb
      go_wp2_with fail
      refine (G2.out _ (HT0.out.on HB.out)).mono ?_
      rintro e w2 ⟨rfl, hb2⟩
      go_wp2
      go_ret
      exact ⟨ret_text HT.out.symm, HB.out.trans (hb2.mono (Nat.le_of_lt hz1))⟩
/-- a url's fields at block g, an empty origin's behind it -/
def OfAt (w : World) (g : Nat) (sc ho : ByteArray) (po : Int) : Prop :=
  g + 1 < w.heap.size ∧ w.cell? ⟨g, 0, none⟩ = some (.string sc) ∧ w.cell? ⟨g, 1, none⟩ = some (.string ho) ∧ w.cell? ⟨g, 2, none⟩ = some (.int .i64 po) ∧ w.cell? ⟨g + 1, 0, none⟩ = some (.string ⟨#[]⟩) ∧ w.cell? ⟨g + 1, 1, none⟩ = some (.string ⟨#[]⟩) ∧ w.cell? ⟨g + 1, 2, none⟩ = some (.int .i64 0) ∧ w.cell? ⟨g + 1, 3, none⟩ = some (.int .i64 0) ∧ w.frozen? ⟨g + 1, 0, none⟩ = false ∧ w.frozen? ⟨g + 1, 1, none⟩ = false ∧ w.frozen? ⟨g + 1, 2, none⟩ = false ∧ w.frozen? ⟨g + 1, 3, none⟩ = false
theorem OfAt.below {w w' : World} {g : Nat} {sc ho : ByteArray} {po : Int} (h : OfAt w g sc ho po) (hb : Below w.heap.size w w') : OfAt w' g sc ho po := by
  obtain ⟨h0, h1, h2, h3, h4, h5, h6, h7, h8, h9, ha, hc⟩ := h
  have hz := hb.size
  obtain ⟨kc, kf⟩ := bcell hb
  refine ⟨by omega, ?_, ?_, ?_, ?_, ?_, ?_, ?_, ?_, ?_, ?_, ?_⟩
  · rw [kc _ _ (by omega)]; exact h1
  · rw [kc _ _ (by omega)]; exact h2
  · rw [kc _ _ (by omega)]; exact h3
  · rw [kc _ _ h0]; exact h4
  · rw [kc _ _ h0]; exact h5
  · rw [kc _ _ h0]; exact h6
  · rw [kc _ _ h0]; exact h7
  · rw [kf _ _ h0]; exact h8
  · rw [kf _ _ h0]; exact h9
  · rw [kf _ _ h0]; exact ha
  · rw [kf _ _ h0]; exact hc
set_option maxRecDepth 10000 in
set_option maxHeartbeats 1000000 in
theorem originOf_any (sc ho pa : ByteArray) (po : Int) (w : World) (hG : MaxI w) (hh : ho.size ≤ 1048576) :
    Calls Tryz.prog 69 #[urlV sc ho pa po] w fun e w' => e = .returned (if urlB sc ho pa po = true then originV sc ho po 0 else originV ⟨#[]⟩ ⟨#[]⟩ 0 0) ∧ Below w.heap.size w w' := by
  have H1 := fun W (h : MaxI W) => urlRight_any sc ho pa po W h hh
  have HG : Hid (∀ o o', MaxI ((w.alloc o).alloc o')) := fun o o' => hG.on (((Below.refl _ _).alloc (Nat.le_refl _) _).alloc (by simp) _)
  clear hG
  unfold urlV at H1 ⊢
  cases hu : urlB sc ho pa po with
  | false =>
    rw [hu] at H1
    rw [if_neg (by simp)]
    have G1 : Hid (∀ W, MaxI W → Calls Tryz.prog 44 #[.agg #[.string sc, .string ho, .int .i64 po, .string pa]] W fun e w' => e = .returned (.bool false) ∧ Below W.heap.size W w') := H1
    clear H1 hu
    go_enter Tryz.func69, Tryz.ntmps69
    go_wp2_with fail
    refine (G1.out _ (HG.out _ _)).mono ?_
    rintro e w1 ⟨rfl, hb⟩
    obtain ⟨hc, hf⟩ := bcell hb
    go_wp2
    refine bodyPost_ret (v := originV ⟨#[]⟩ ⟨#[]⟩ 0 0) (by simp [originV, results, Tryz.results69, go_sem, hc]) rfl ⟨rfl, ?_⟩
    exact Below.setCell (Below.setCell (Below.setCell (Below.setCell ((((Below.refl _ _).alloc (Nat.le_refl _) _).alloc (by simp) _).trans (hb.mono (by simp; omega))) (by simp) _) (by simp) _) (by simp) _) (by simp) _
  | true =>
    obtain ⟨h1, h2, _, _, _⟩ := urlB_parts hu
    have G2 : Hid (∀ W, Calls Tryz.prog 90 #[.string sc, .string ⟨#[]⟩] W fun e w' => e = .returned (.string sc) ∧ Below W.heap.size W w') := fun W => together_empty sc W (by omega)
    have G3 : Hid (∀ W, Calls Tryz.prog 90 #[.string ho, .string ⟨#[]⟩] W fun e w' => e = .returned (.string ho) ∧ Below W.heap.size W w') := fun W => together_empty ho W (by omega)
    rw [hu] at H1
    rw [if_pos rfl]
    have G1 : Hid (∀ W, MaxI W → Calls Tryz.prog 44 #[.agg #[.string sc, .string ho, .int .i64 po, .string pa]] W fun e w' => e = .returned (.bool true) ∧ Below W.heap.size W w') := H1
    clear H1 hu h1 h2
    go_enter Tryz.func69, Tryz.ntmps69
    go_wp2_with fail
    refine (G1.out _ (HG.out _ _)).mono ?_
    rintro e w1 ⟨rfl, hb⟩
    have hz1 : w.heap.size + 1 < w1.heap.size := by have := hb.size; simp at this; omega
    have HB : Hid (Below w.heap.size w w1) := (((Below.refl _ _).alloc (Nat.le_refl _) _).alloc (by simp) _).trans (hb.mono (by simp; omega))
    obtain ⟨hc, hf⟩ := bcell hb
    have c0 : w1.cell? ⟨w.heap.size, 0, none⟩ = some (.string sc) := by rw [hc _ _ (by simp <;> omega), World.cell?_alloc_lt _ _ ⟨w.heap.size, 0, none⟩ (by simp)]; simp
    have c1 : w1.cell? ⟨w.heap.size, 1, none⟩ = some (.string ho) := by rw [hc _ _ (by simp <;> omega), World.cell?_alloc_lt _ _ ⟨w.heap.size, 1, none⟩ (by simp)]; simp
    have c2 : w1.cell? ⟨w.heap.size, 2, none⟩ = some (.int .i64 po) := by rw [hc _ _ (by simp <;> omega), World.cell?_alloc_lt _ _ ⟨w.heap.size, 2, none⟩ (by simp)]; simp
    have r0 : w1.cell? ⟨w.heap.size + 1, 0, none⟩ = some (.string ⟨#[]⟩) := by rw [hc _ _ (by simp <;> omega), World.cell?_alloc_at _ _ _ _ (by simp)]; rfl
    have r1 : w1.cell? ⟨w.heap.size + 1, 1, none⟩ = some (.string ⟨#[]⟩) := by rw [hc _ _ (by simp <;> omega), World.cell?_alloc_at _ _ _ _ (by simp)]; rfl
    have r2 : w1.cell? ⟨w.heap.size + 1, 2, none⟩ = some (.int .i64 0) := by rw [hc _ _ (by simp <;> omega), World.cell?_alloc_at _ _ _ _ (by simp)]; rfl
    have r3 : w1.cell? ⟨w.heap.size + 1, 3, none⟩ = some (.int .i64 0) := by rw [hc _ _ (by simp <;> omega), World.cell?_alloc_at _ _ _ _ (by simp)]; rfl
    have hfz : ∀ o, w1.frozen? ⟨w.heap.size + 1, o, none⟩ = false := fun o => by rw [hf _ _ (by simp <;> omega)]; simp
    have f0 := hfz 0
    have f1 := hfz 1
    have f2 := hfz 2
    have f3 := hfz 3
    clear hb hc hf hfz
    go_wp2_with fail
    go_region_held3 (fun w' => w.heap.size + 1 < w'.heap.size ∧ w'.cell? ⟨w.heap.size, 0, none⟩ = some (.string sc) ∧ w'.cell? ⟨w.heap.size, 1, none⟩ = some (.string ho) ∧ w'.cell? ⟨w.heap.size, 2, none⟩ = some (.int .i64 po)) (go_keep)
      (first
        | (go_at_call_of 90 (Value.string sc); refine (G2.out _).mono ?_; rintro e wA ⟨rfl, hbA⟩; have TA := OfAt.below (g := w.heap.size) (sc := sc) (ho := ho) (po := po) (by unfold OfAt; go_keep) hbA; obtain ⟨zA, p0A, p1A, p2A, q0A, q1A, q2A, q3A, f0A, f1A, f2A, f3A⟩ := TA)
        | (go_at_call_of 90 (Value.string ho); refine (G3.out _).mono ?_; rintro e wB ⟨rfl, hbB⟩; have TB := OfAt.below (g := w.heap.size) (sc := sc) (ho := ho) (po := po) (by unfold OfAt; go_keep) hbB; obtain ⟨zB, p0B, p1B, p2B, q0B, q1B, q2B, q3B, f0B, f1B, f2B, f3B⟩ := TB))
    have HBB : Hid (Below w.heap.size w wB) := (HB.out.trans (((Below.refl _ _).drew).trans (hbA.mono (by simp; omega)))).trans (hbB.mono (by omega))
    clear hbA hbB
    go_wp2
    refine bodyPost_ret (v := originV sc ho po 0) (by simp [originV, results, Tryz.results69, go_sem, q0B, q1B, q2B, q3B]) rfl ⟨rfl, ?_⟩
    exact Below.setCell (Below.setCell (Below.setCell (Below.setCell HBB.out (by simp) _) (by simp) _) (by simp) _) (by simp) _
theorem sameF_eq {sc ho : ByteArray} {po no : Int} {sc2 ho2 : ByteArray} {po2 no2 : Int} (h : sameF sc ho po no sc2 ho2 po2 no2 = true) : sc = sc2 ∧ ho = ho2 ∧ po = po2 ∧ no = no2 := by
  unfold sameF at h
  simp only [Bool.and_eq_true, beq_iff_eq] at h
  obtain ⟨⟨⟨h1, h2⟩, h3⟩, h4⟩ := h
  rw [ByteArray.toList_eq, ByteArray.toList_eq] at h1 h2
  refine ⟨?_, ?_, h3, h4⟩
  · cases sc; cases sc2; congr 1; exact Array.toList_inj.1 h1
  · cases ho; cases ho2; congr 1; exact Array.toList_inj.1 h2
set_option maxRecDepth 10000 in
set_option maxHeartbeats 400000 in
theorem originSame_any (sc ho : ByteArray) (po no : Int) (sc2 ho2 : ByteArray) (po2 no2 : Int) (w : World) (hG : MaxI w) (hh : ho.size ≤ 1048576) :
    Calls Tryz.prog 97 #[originV sc ho po no, originV sc2 ho2 po2 no2] w fun e w' => e = .returned (.bool (sameO sc ho po no sc2 ho2 po2 no2)) ∧ Below w.heap.size w w' := by
  have H1 := fun W (h : MaxI W) => originRight_any sc ho po no W h hh
  have HG : Hid (∀ o o', MaxI ((w.alloc o).alloc o')) := fun o o' => hG.on (((Below.refl _ _).alloc (Nat.le_refl _) _).alloc (by simp) _)
  have HS : Hid (sameO sc ho po no sc2 ho2 po2 no2 = (originB sc ho po no && originB sc2 ho2 po2 no2 && sameF sc ho po no sc2 ho2 po2 no2)) := rfl
  have HF : Hid (sameF sc ho po no sc2 ho2 po2 no2 = ((sc.toList == sc2.toList) && (ho.toList == ho2.toList) && (po == po2) && (no == no2))) := rfl
  have HE : Hid (sameF sc ho po no sc2 ho2 po2 no2 = true → originB sc2 ho2 po2 no2 = originB sc ho po no) := fun h => by
    obtain ⟨rfl, rfl, rfl, rfl⟩ := sameF_eq h
    rfl
  generalize originB sc ho po no = b at *
  unfold originV at H1 ⊢
  have G1 : Hid (∀ W, MaxI W → Calls Tryz.prog 103 #[.agg #[.string sc, .string ho, .int .i64 po, .int .i64 no]] W fun e w' => e = .returned (.bool b) ∧ Below W.heap.size W w') := H1
  clear H1 hG
  cases hs : sameF sc ho po no sc2 ho2 po2 no2 with
  | false =>
    have HQ : Hid (sameO sc ho po no sc2 ho2 po2 no2 = false) := by show _ = _; rw [HS.out, hs]; simp
    rw [HF.out] at hs
    have HW : Hid (∀ o o', Below w.heap.size w ((w.alloc o).alloc o')) := fun o o' => ((Below.refl _ _).alloc (Nat.le_refl _) _).alloc (by simp) _
    cases e1 : (sc.toList == sc2.toList) with
    | false =>
      go_enter Tryz.func97, Tryz.ntmps97
      go_wp2
      go_ret
      exact ⟨ret_bool HQ.out.symm, HW.out _ _⟩
    | true =>
      cases e2 : (ho.toList == ho2.toList) with
      | false =>
        go_enter Tryz.func97, Tryz.ntmps97
        go_wp2
        go_ret
        exact ⟨ret_bool HQ.out.symm, HW.out _ _⟩
      | true =>
        cases e3 : (po == po2) with
        | false =>
          go_enter Tryz.func97, Tryz.ntmps97
          go_wp2
          go_ret
          exact ⟨ret_bool HQ.out.symm, HW.out _ _⟩
        | true =>
          have e4 : (no == no2) = false := by rw [e1, e2, e3] at hs; exact hs
          go_enter Tryz.func97, Tryz.ntmps97
          go_wp2
          go_ret
          exact ⟨ret_bool HQ.out.symm, HW.out _ _⟩
  | true =>
    have HQ : Hid (sameO sc ho po no sc2 ho2 po2 no2 = b) := by show _ = _; rw [HS.out, hs, HE.out hs]; simp
    obtain ⟨rfl, rfl, rfl, rfl⟩ := sameF_eq hs
    clear hs HS HF HE
    go_enter Tryz.func97, Tryz.ntmps97
    go_wp2_with fail
    refine (G1.out _ (HG.out _ _)).mono ?_
    rintro e w1 ⟨rfl, hb⟩
    go_wp2
    all_goals
      go_ret
      exact ⟨ret_bool HQ.out.symm, (((Below.refl _ _).alloc (Nat.le_refl _) _).alloc (by simp) _).trans (hb.mono (by simp; omega))⟩
end Go.Proofs.YtnpaekjiafaahaaGreatDoor

/- The walks of the program's frameOf and FrameOrigin. Written by implorg9.py. -/
namespace Go.Proofs.YtnpaekjiafaahaaGreatDoor
open Go.RowKit

set_option maxRecDepth 10000 in
set_option maxHeartbeats 4000000 in
theorem frameOf_any (v : Value) (L : List Fr) (B : Nat) (id : Int) (w : World) (hG : MaxI w) (hs : SliceF w B v L) (hn : L.length ≤ 1048576) (hh : ∀ i, i < L.length → (atF L i).ho.size ≤ 1048576) :
    Calls Tryz.prog 68 #[v, .int .i64 id] w fun e w' => e = .returned (.tuple #[frV (if (hereF L id && framesB L) = true then getF L id else frNone), .bool (hereF L id && framesB L)]) ∧ Below w.heap.size w w' := by
  have KP : Hid (∀ W, Below w.heap.size w W → Calls Tryz.prog 53 #[v, .int .i64 id] W fun e w' => e = .returned (.int .i64 (whF L id)) ∧ Below W.heap.size W w') := fun W hb => placeOf9_any v L B id W (hs.below hb) hn
  have KR : Hid (∀ W, Below w.heap.size w W → Calls Tryz.prog 16 #[v] W fun e w' => e = .returned (.bool (framesB L)) ∧ Below W.heap.size W w') := fun W hb => framesRight_any v L B W (hG.on hb) (hs.below hb) hn hh
  have HH : Hid (hereF L id = true → (whF L id).toNat < L.length ∧ (whF L id) = ((whF L id).toNat : Int)) := fun h => hereF_at h
  have HE : Hid (hereF L id = decide (0 ≤ whF L id)) := rfl
  have HGe : Hid (getF L id = atF L (whF L id).toNat) := rfl
  have HS : Hid (SliceF w B v L) := hs
  have HX0 : Hid (BoxV (w.alloc (.cells #[.int .i64 0, .int .i64 0, .string ⟨#[]⟩, .string ⟨#[]⟩, .int .i64 0, .string ⟨#[]⟩, .bool false, .bool false, .int .i64 0] 45)) w.heap.size [.int .i64 0, .int .i64 0, .string ⟨#[]⟩, .string ⟨#[]⟩, .int .i64 0, .string ⟨#[]⟩, .bool false, .bool false, .int .i64 0]) := boxV_new w [.int .i64 0, .int .i64 0, .string ⟨#[]⟩, .string ⟨#[]⟩, .int .i64 0, .string ⟨#[]⟩, .bool false, .bool false, .int .i64 0] 45
  have HB0 : Hid (Below w.heap.size w (w.alloc (.cells #[.int .i64 0, .int .i64 0, .string ⟨#[]⟩, .string ⟨#[]⟩, .int .i64 0, .string ⟨#[]⟩, .bool false, .bool false, .int .i64 0] 45))) := (Below.refl _ _).alloc (Nat.le_refl _) _
  clear hs hG hh
  generalize framesB L = fb at *
  generalize getF L id = y at *
  generalize hereF L id = hf at *
  generalize whF L id = z at *
  go_enter Tryz.func68, Tryz.ntmps68
  go_wp2_with fail
  refine (KP.out _ HB0.out).mono ?_
  rintro e w1 ⟨rfl, hb1⟩
  have HX1 : Hid (BoxV w1 w.heap.size [.int .i64 0, .int .i64 0, .string ⟨#[]⟩, .string ⟨#[]⟩, .int .i64 0, .string ⟨#[]⟩, .bool false, .bool false, .int .i64 0]) := HX0.out.below hb1
  have B1 : Hid (Below w.heap.size w w1) := HB0.out.trans (hb1.mono HB0.out.size)
  clear hb1 HX0 HB0 KP
  generalize hbb : w.heap.size = b at *
  cases hf with
  | false =>
    have q0 : decide (z < 0) = true := by
      have h : false = decide (0 ≤ z) := HE.out
      have := of_decide_eq_false h.symm
      exact decide_eq_true (by omega)
    have x0 : w1.cell? ⟨b, 0, none⟩ = some (.int .i64 0) := HX1.out.at (i := 0) rfl
    have xf0 : w1.frozen? ⟨b, 0, none⟩ = false := HX1.out.free (i := 0) rfl
    have x1 : w1.cell? ⟨b, 1, none⟩ = some (.int .i64 0) := HX1.out.at (i := 1) rfl
    have xf1 : w1.frozen? ⟨b, 1, none⟩ = false := HX1.out.free (i := 1) rfl
    have x2 : w1.cell? ⟨b, 2, none⟩ = some (.string ⟨#[]⟩) := HX1.out.at (i := 2) rfl
    have xf2 : w1.frozen? ⟨b, 2, none⟩ = false := HX1.out.free (i := 2) rfl
    have x3 : w1.cell? ⟨b, 3, none⟩ = some (.string ⟨#[]⟩) := HX1.out.at (i := 3) rfl
    have xf3 : w1.frozen? ⟨b, 3, none⟩ = false := HX1.out.free (i := 3) rfl
    have x4 : w1.cell? ⟨b, 4, none⟩ = some (.int .i64 0) := HX1.out.at (i := 4) rfl
    have xf4 : w1.frozen? ⟨b, 4, none⟩ = false := HX1.out.free (i := 4) rfl
    have x5 : w1.cell? ⟨b, 5, none⟩ = some (.string ⟨#[]⟩) := HX1.out.at (i := 5) rfl
    have xf5 : w1.frozen? ⟨b, 5, none⟩ = false := HX1.out.free (i := 5) rfl
    have x6 : w1.cell? ⟨b, 6, none⟩ = some (.bool false) := HX1.out.at (i := 6) rfl
    have xf6 : w1.frozen? ⟨b, 6, none⟩ = false := HX1.out.free (i := 6) rfl
    have x7 : w1.cell? ⟨b, 7, none⟩ = some (.bool false) := HX1.out.at (i := 7) rfl
    have xf7 : w1.frozen? ⟨b, 7, none⟩ = false := HX1.out.free (i := 7) rfl
    have x8 : w1.cell? ⟨b, 8, none⟩ = some (.int .i64 0) := HX1.out.at (i := 8) rfl
    have xf8 : w1.frozen? ⟨b, 8, none⟩ = false := HX1.out.free (i := 8) rfl
    clear HX1
    go_wp2
    exact bodyPost_ret (v := .tuple #[.agg #[.int .i64 0, .int .i64 0, .string ⟨#[]⟩, .string ⟨#[]⟩, .int .i64 0, .string ⟨#[]⟩, .bool false, .bool false, .int .i64 0], .bool false]) (by simp [results, Tryz.results68, go_sem, x0, x1, x2, x3, x4, x5, x6, x7, x8]) rfl ⟨rfl, (Below.setCell (Below.setCell (Below.setCell (Below.setCell (Below.setCell (Below.setCell (Below.setCell (Below.setCell (Below.setCell B1.out (Nat.le_refl _) _) (Nat.le_refl _) _) (Nat.le_refl _) _) (Nat.le_refl _) _) (Nat.le_refl _) _) (Nat.le_refl _) _) (Nat.le_refl _) _) (Nat.le_refl _) _) (Nat.le_refl _) _)⟩
  | true =>
  have q0 : decide (z < 0) = false := by
    have h : true = decide (0 ≤ z) := HE.out
    have := of_decide_eq_true h.symm
    exact decide_eq_false (by omega)
  obtain ⟨k, hk, hz2⟩ : ∃ k : Nat, k = z.toNat ∧ z = (k : Int) := ⟨z.toNat, rfl, (HH.out rfl).2⟩
  have k1 : k < L.length := by rw [hk]; exact (HH.out rfl).1
  have HGk : Hid (y = atF L k) := by show y = _; rw [hk]; exact HGe.out
  clear HE HH HGe hk
  subst hz2
  go_wp2_with fail
  refine (KR.out _ (by first | exact B1.out | (rw [hbb]; exact B1.out))).mono ?_
  rintro e w2 ⟨rfl, hb2⟩
  have HX2 : Hid (BoxV w2 b [.int .i64 0, .int .i64 0, .string ⟨#[]⟩, .string ⟨#[]⟩, .int .i64 0, .string ⟨#[]⟩, .bool false, .bool false, .int .i64 0]) := HX1.out.below hb2
  have B2 : Hid (Below b w w2) := B1.out.trans (hb2.mono (by rw [← hbb]; exact B1.out.size))
  clear hb2 HX1 KR
  have x0 : w2.cell? ⟨b, 0, none⟩ = some (.int .i64 0) := HX2.out.at (i := 0) rfl
  have xf0 : w2.frozen? ⟨b, 0, none⟩ = false := HX2.out.free (i := 0) rfl
  have x1 : w2.cell? ⟨b, 1, none⟩ = some (.int .i64 0) := HX2.out.at (i := 1) rfl
  have xf1 : w2.frozen? ⟨b, 1, none⟩ = false := HX2.out.free (i := 1) rfl
  have x2 : w2.cell? ⟨b, 2, none⟩ = some (.string ⟨#[]⟩) := HX2.out.at (i := 2) rfl
  have xf2 : w2.frozen? ⟨b, 2, none⟩ = false := HX2.out.free (i := 2) rfl
  have x3 : w2.cell? ⟨b, 3, none⟩ = some (.string ⟨#[]⟩) := HX2.out.at (i := 3) rfl
  have xf3 : w2.frozen? ⟨b, 3, none⟩ = false := HX2.out.free (i := 3) rfl
  have x4 : w2.cell? ⟨b, 4, none⟩ = some (.int .i64 0) := HX2.out.at (i := 4) rfl
  have xf4 : w2.frozen? ⟨b, 4, none⟩ = false := HX2.out.free (i := 4) rfl
  have x5 : w2.cell? ⟨b, 5, none⟩ = some (.string ⟨#[]⟩) := HX2.out.at (i := 5) rfl
  have xf5 : w2.frozen? ⟨b, 5, none⟩ = false := HX2.out.free (i := 5) rfl
  have x6 : w2.cell? ⟨b, 6, none⟩ = some (.bool false) := HX2.out.at (i := 6) rfl
  have xf6 : w2.frozen? ⟨b, 6, none⟩ = false := HX2.out.free (i := 6) rfl
  have x7 : w2.cell? ⟨b, 7, none⟩ = some (.bool false) := HX2.out.at (i := 7) rfl
  have xf7 : w2.frozen? ⟨b, 7, none⟩ = false := HX2.out.free (i := 7) rfl
  have x8 : w2.cell? ⟨b, 8, none⟩ = some (.int .i64 0) := HX2.out.at (i := 8) rfl
  have xf8 : w2.frozen? ⟨b, 8, none⟩ = false := HX2.out.free (i := 8) rfl
  clear HX2 B1
  cases fb with
  | false =>
    go_wp2
    exact bodyPost_ret (v := .tuple #[.agg #[.int .i64 0, .int .i64 0, .string ⟨#[]⟩, .string ⟨#[]⟩, .int .i64 0, .string ⟨#[]⟩, .bool false, .bool false, .int .i64 0], .bool false]) (by simp [results, Tryz.results68, go_sem, x0, x1, x2, x3, x4, x5, x6, x7, x8]) rfl ⟨rfl, (Below.setCell (Below.setCell (Below.setCell (Below.setCell (Below.setCell (Below.setCell (Below.setCell (Below.setCell (Below.setCell B2.out (Nat.le_refl _) _) (Nat.le_refl _) _) (Nat.le_refl _) _) (Nat.le_refl _) _) (Nat.le_refl _) _) (Nat.le_refl _) _) (Nat.le_refl _) _) (Nat.le_refl _) _) (Nat.le_refl _) _)⟩
  | true =>
    obtain ⟨⟨p, cap, rfl, hg⟩, -⟩ := HS.out
    obtain ⟨g, rfl, -, hgw, hc⟩ := hg (by omega)
    clear hg HS
    have e1 : y = atF L k := HGk.out
    clear HGk
    have k0 : (0 : Int) ≤ k := by omega
    have k2 : (k : Int) < L.length := by omega
    have hbw : ∀ o, w2.cell? ⟨g, o, none⟩ = w.cell? ⟨g, o, none⟩ := fun o => B2.out.cell (p := ⟨g, o, none⟩) (by rw [← hbb]; exact hgw)
    have c0 : w2.cell? ⟨g, k * 9, none⟩ = some (.int .i64 (y).id) := by rw [hbw, e1]; exact (hc k k1 0 (by omega)).1
    have c1 : w2.cell? ⟨g, k * 9 + 1, none⟩ = some (.int .i64 (y).pa) := by rw [hbw, e1]; exact (hc k k1 1 (by omega)).1
    have c2 : w2.cell? ⟨g, k * 9 + 2, none⟩ = some (.string (y).sc) := by rw [hbw, e1]; exact (hc k k1 2 (by omega)).1
    have c3 : w2.cell? ⟨g, k * 9 + 3, none⟩ = some (.string (y).ho) := by rw [hbw, e1]; exact (hc k k1 3 (by omega)).1
    have c4 : w2.cell? ⟨g, k * 9 + 4, none⟩ = some (.int .i64 (y).po) := by rw [hbw, e1]; exact (hc k k1 4 (by omega)).1
    have c5 : w2.cell? ⟨g, k * 9 + 5, none⟩ = some (.string (y).pt) := by rw [hbw, e1]; exact (hc k k1 5 (by omega)).1
    have c6 : w2.cell? ⟨g, k * 9 + 6, none⟩ = some (.bool (y).sb) := by rw [hbw, e1]; exact (hc k k1 6 (by omega)).1
    have c7 : w2.cell? ⟨g, k * 9 + 7, none⟩ = some (.bool (y).fl) := by rw [hbw, e1]; exact (hc k k1 7 (by omega)).1
    have c8 : w2.cell? ⟨g, k * 9 + 8, none⟩ = some (.int .i64 (y).tc) := by rw [hbw, e1]; exact (hc k k1 8 (by omega)).1
    clear hc hbw e1 hgw
    obtain ⟨yid, ypa, ysc, yho, ypo, ypt, ysb, yfl, ytc⟩ := y
    dsimp only at *
    go_wp2
    exact bodyPost_ret (v := .tuple #[.agg #[.int .i64 yid, .int .i64 ypa, .string ysc, .string yho, .int .i64 ypo, .string ypt, .bool ysb, .bool yfl, .int .i64 ytc], .bool true]) (by simp [results, Tryz.results68, go_sem, x0, x1, x2, x3, x4, x5, x6, x7, x8]) rfl ⟨rfl, (Below.setCell (Below.setCell (Below.setCell (Below.setCell (Below.setCell (Below.setCell (Below.setCell (Below.setCell (Below.setCell B2.out (Nat.le_refl _) _) (Nat.le_refl _) _) (Nat.le_refl _) _) (Nat.le_refl _) _) (Nat.le_refl _) _) (Nat.le_refl _) _) (Nat.le_refl _) _) (Nat.le_refl _) _) (Nat.le_refl _) _)⟩
set_option maxRecDepth 10000 in
set_option maxHeartbeats 4000000 in
theorem frameOrigin_any (v : Value) (L : List Fr) (B : Nat) (id : Int) (w : World) (hG : MaxI w) (hs : SliceF w B v L) (hn : L.length ≤ 1048576) (hh : ∀ i, i < L.length → (atF L i).ho.size ≤ 1048576) :
    Calls Tryz.prog 18 #[v, .int .i64 id] w fun e w' => e = .returned (ogV (orgF L id)) ∧ Below w.heap.size w w' := by
  have KF : Hid (∀ W, Below w.heap.size w W → Calls Tryz.prog 68 #[v, .int .i64 id] W fun e w' => e = .returned (.tuple #[frV (if (hereF L id && framesB L) = true then getF L id else frNone), .bool (hereF L id && framesB L)]) ∧ Below W.heap.size W w') := fun W hb => frameOf_any v L B id W (hG.on hb) (hs.below hb) hn hh
  have HE : Hid (orgF L id = if (hereF L id && framesB L) = true then ogF (getF L id) else ogNone) := rfl
  have HHo : Hid ((hereF L id && framesB L) = true → (getF L id).ho.size ≤ 1048576) := fun h => by
    rw [Bool.and_eq_true] at h
    exact hh _ (hereF_at h.1).1
  have HX0 : Hid (BoxV (w.alloc (.cells #[.string ⟨#[]⟩, .string ⟨#[]⟩, .int .i64 0, .int .i64 0] 41)) w.heap.size [.string ⟨#[]⟩, .string ⟨#[]⟩, .int .i64 0, .int .i64 0]) := boxV_new w [.string ⟨#[]⟩, .string ⟨#[]⟩, .int .i64 0, .int .i64 0] 41
  have HB0 : Hid (Below w.heap.size w (w.alloc (.cells #[.string ⟨#[]⟩, .string ⟨#[]⟩, .int .i64 0, .int .i64 0] 41))) := (Below.refl _ _).alloc (Nat.le_refl _) _
  have HGo : Hid (∀ W, Below w.heap.size w W → MaxI W) := fun W hb => hG.on hb
  clear hs hG hh
  generalize orgF L id = R at *
  generalize hok : (hereF L id && framesB L) = ok at *
  generalize getF L id = y at *
  cases ok with
  | false =>
    have HQ : Hid (R = ogNone) := HE.out
    clear HHo HE
    rw [if_neg (by decide)] at KF
    go_enter Tryz.func18, Tryz.ntmps18
    go_wp2_with fail
    refine (KF.out _ HB0.out).mono ?_
    rintro e w1 ⟨rfl, hb1⟩
    have HX1 : Hid (BoxV w1 w.heap.size [.string ⟨#[]⟩, .string ⟨#[]⟩, .int .i64 0, .int .i64 0]) := HX0.out.below hb1
    have B1 : Hid (Below w.heap.size w w1) := HB0.out.trans (hb1.mono HB0.out.size)
    clear hb1 HX0 HB0 KF
    generalize hbb : w.heap.size = b at *
    have x0 : w1.cell? ⟨b, 0, none⟩ = some (.string ⟨#[]⟩) := HX1.out.at (i := 0) rfl
    have xf0 : w1.frozen? ⟨b, 0, none⟩ = false := HX1.out.free (i := 0) rfl
    have x1 : w1.cell? ⟨b, 1, none⟩ = some (.string ⟨#[]⟩) := HX1.out.at (i := 1) rfl
    have xf1 : w1.frozen? ⟨b, 1, none⟩ = false := HX1.out.free (i := 1) rfl
    have x2 : w1.cell? ⟨b, 2, none⟩ = some (.int .i64 0) := HX1.out.at (i := 2) rfl
    have xf2 : w1.frozen? ⟨b, 2, none⟩ = false := HX1.out.free (i := 2) rfl
    have x3 : w1.cell? ⟨b, 3, none⟩ = some (.int .i64 0) := HX1.out.at (i := 3) rfl
    have xf3 : w1.frozen? ⟨b, 3, none⟩ = false := HX1.out.free (i := 3) rfl
    have hz : b < w1.heap.size := HX1.out.1
    clear HX1
    unfold frV frNone
    dsimp only
    go_wp2
    exact bodyPost_ret (v := .agg #[.string ⟨#[]⟩, .string ⟨#[]⟩, .int .i64 0, .int .i64 0]) (by simp [results, Tryz.results18, go_sem, cell_under9, hz, x0, x1, x2, x3]) rfl ⟨by rw [HQ.out]; rfl, by rw [hbb]; exact Below.alloc (Below.setCell (Below.setCell (Below.setCell (Below.setCell B1.out (Nat.le_refl _) _) (Nat.le_refl _) _) (Nat.le_refl _) _) (Nat.le_refl _) _) (by simp; omega) _⟩
  | true =>
    have HQ : Hid (R = ogF y) := HE.out
    have hho := HHo.out rfl
    rw [if_pos rfl] at KF
    have KO0 : ∀ W, Below w.heap.size w W → Calls Tryz.prog 69 #[.agg #[.string y.sc, .string y.ho, .int .i64 y.po, .string y.pt]] W fun e w' => e = .returned (ogV (ogUrl y.sc y.ho y.pt y.po)) ∧ Below W.heap.size W w' := fun W hb => by
      have := originOf_any y.sc y.ho y.pt y.po W (HGo.out W hb) hho
      rw [ogUrl_V] at this
      exact this
    have HO1 : Hid (y.sb = true → ogF y = ⟨⟨#[]⟩, ⟨#[]⟩, 0, y.id⟩) := fun h => by unfold ogF; rw [if_pos h]
    have HO2 : Hid (y.sb = false → ogF y = ogUrl y.sc y.ho y.pt y.po) := fun h => by unfold ogF; rw [if_neg (by rw [h]; decide)]
    clear HHo HE hho HGo
    generalize ogF y = q at *
    generalize hou : ogUrl y.sc y.ho y.pt y.po = ou at *
    clear hou
    obtain ⟨yid, ypa, ysc, yho, ypo, ypt, ysb, yfl, ytc⟩ := y
    obtain ⟨o1, o2, o3, o4⟩ := ou
    unfold frV ogV at *
    dsimp only at *
    have KO : Hid (∀ W, Below w.heap.size w W → Calls Tryz.prog 69 #[.agg #[.string ysc, .string yho, .int .i64 ypo, .string ypt]] W fun e w' => e = .returned (.agg #[.string o1, .string o2, .int .i64 o3, .int .i64 o4]) ∧ Below W.heap.size W w') := KO0
    clear KO0
    go_enter Tryz.func18, Tryz.ntmps18
    go_wp2_with fail
    refine (KF.out _ HB0.out).mono ?_
    rintro e w1 ⟨rfl, hb1⟩
    have HX1 : Hid (BoxV w1 w.heap.size [.string ⟨#[]⟩, .string ⟨#[]⟩, .int .i64 0, .int .i64 0]) := HX0.out.below hb1
    have B1 : Hid (Below w.heap.size w w1) := HB0.out.trans (hb1.mono HB0.out.size)
    clear hb1 HX0 HB0 KF
    cases ysb with
    | true =>
      have HR : Hid (R = ⟨⟨#[]⟩, ⟨#[]⟩, 0, yid⟩) := by show R = _; rw [HQ.out]; exact HO1.out rfl
      clear HO1 HO2 HQ KO
      generalize hbb : w.heap.size = b at *
      have x0 : w1.cell? ⟨b, 0, none⟩ = some (.string ⟨#[]⟩) := HX1.out.at (i := 0) rfl
      have xf0 : w1.frozen? ⟨b, 0, none⟩ = false := HX1.out.free (i := 0) rfl
      have x1 : w1.cell? ⟨b, 1, none⟩ = some (.string ⟨#[]⟩) := HX1.out.at (i := 1) rfl
      have xf1 : w1.frozen? ⟨b, 1, none⟩ = false := HX1.out.free (i := 1) rfl
      have x2 : w1.cell? ⟨b, 2, none⟩ = some (.int .i64 0) := HX1.out.at (i := 2) rfl
      have xf2 : w1.frozen? ⟨b, 2, none⟩ = false := HX1.out.free (i := 2) rfl
      have x3 : w1.cell? ⟨b, 3, none⟩ = some (.int .i64 0) := HX1.out.at (i := 3) rfl
      have xf3 : w1.frozen? ⟨b, 3, none⟩ = false := HX1.out.free (i := 3) rfl
      have hz : b < w1.heap.size := HX1.out.1
      clear HX1
      go_wp2
      exact bodyPost_ret (v := .agg #[.string ⟨#[]⟩, .string ⟨#[]⟩, .int .i64 0, .int .i64 yid]) (by simp [results, Tryz.results18, go_sem, cell_under9, hz, x0, x1, x2, x3]) rfl ⟨by rw [HR.out], by rw [hbb]; exact Below.alloc (Below.setCell (Below.setCell (Below.setCell (Below.setCell B1.out (Nat.le_refl _) _) (Nat.le_refl _) _) (Nat.le_refl _) _) (Nat.le_refl _) _) (by simp; omega) _⟩
    | false =>
      have HR : Hid (R = ⟨o1, o2, o3, o4⟩) := by show R = _; rw [HQ.out]; exact HO2.out rfl
      clear HO1 HO2 HQ
      go_wp2_with fail
      refine (KO.out _ (B1.out.alloc B1.out.size _)).mono ?_
      rintro e w2 ⟨rfl, hb2⟩
      have HX2 : Hid (BoxV w2 w.heap.size [.string ⟨#[]⟩, .string ⟨#[]⟩, .int .i64 0, .int .i64 0]) := (HX1.out.alloc _).below hb2
      have B2 : Hid (Below w.heap.size w w2) := (B1.out.alloc B1.out.size _).trans (hb2.mono (by simp; exact Nat.le_succ_of_le B1.out.size))
      clear hb2 HX1 B1 KO
      generalize hbb : w.heap.size = b at *
      have x0 : w2.cell? ⟨b, 0, none⟩ = some (.string ⟨#[]⟩) := HX2.out.at (i := 0) rfl
      have xf0 : w2.frozen? ⟨b, 0, none⟩ = false := HX2.out.free (i := 0) rfl
      have x1 : w2.cell? ⟨b, 1, none⟩ = some (.string ⟨#[]⟩) := HX2.out.at (i := 1) rfl
      have xf1 : w2.frozen? ⟨b, 1, none⟩ = false := HX2.out.free (i := 1) rfl
      have x2 : w2.cell? ⟨b, 2, none⟩ = some (.int .i64 0) := HX2.out.at (i := 2) rfl
      have xf2 : w2.frozen? ⟨b, 2, none⟩ = false := HX2.out.free (i := 2) rfl
      have x3 : w2.cell? ⟨b, 3, none⟩ = some (.int .i64 0) := HX2.out.at (i := 3) rfl
      have xf3 : w2.frozen? ⟨b, 3, none⟩ = false := HX2.out.free (i := 3) rfl
      clear HX2
      go_wp2
      exact bodyPost_ret (v := .agg #[.string o1, .string o2, .int .i64 o3, .int .i64 o4]) (by simp [results, Tryz.results18, go_sem, x0, x1, x2, x3]) rfl ⟨by rw [HR.out], by rw [hbb]; exact (Below.setCell (Below.setCell (Below.setCell (Below.setCell B2.out (Nat.le_refl _) _) (Nat.le_refl _) _) (Nat.le_refl _) _) (Nat.le_refl _) _)⟩
end Go.Proofs.YtnpaekjiafaahaaGreatDoor

/- The walk of the program's FrameThird over the iterator. Written by thirdi.py. -/
namespace Go.Proofs.YtnpaekjiafaahaaGreatDoor
open Go.RowKit Go.Maps Go.Shelf
attribute [local go_sem] Oper.semAt_some

set_option maxRecDepth 100000 in
set_option maxHeartbeats 16000000 in
theorem frameThird_any (v rv : Value) (L : List Fr) (B Br n : Nat) (f : Nat → ByteArray) (id : Int) (w : World) (hG : MaxI w) (hs : SliceF w B v L) (hn : L.length ≤ 1048576) (hh : ∀ i, i < L.length → (atF L i).ho.size ≤ 1048576) (hr : SliceS w Br rv n f) (l1 : n ≤ 1048576) (hf : ∀ i, i < n → (f i).size ≤ 1048576) (i1 : -9223372036854775808 ≤ id) (i2 : id ≤ 9223372036854775807) :
    Calls Tryz.prog 30 #[v, rv, .int .i64 id] w fun e w' => e = .returned (.bool (thirdF n f L id)) ∧ Below w.heap.size w w' := by
  obtain ⟨pr, capr, rfl⟩ : ∃ p cap, rv = .slice p n cap := by obtain ⟨p, c, e, -⟩ := hr; exact ⟨p, c, e⟩
  have KF0 : ∀ W, Below w.heap.size w W → Calls Tryz.prog 68 #[v, .int .i64 id] W fun e w' => e = .returned (.tuple #[frV (if (hereF L id && framesB L) = true then getF L id else frNone), .bool (hereF L id && framesB L)]) ∧ Below W.heap.size W w' := fun W hb => frameOf_any v L B id W (hG.on hb) (hs.below hb) hn hh
  have KR : Hid (∀ W, Below w.heap.size w W → Calls Tryz.prog 52 #[.slice pr n capr] W fun e w' => e = .returned (.bool (rulesB n f)) ∧ Below W.heap.size W w') := fun W hb => rulesRight_any (.slice pr n capr) n Br f W (hG.on hb) (hr.below hb) l1 hf
  have HE : Hid (thirdF n f L id = ((framesB L && rulesB n f && hereF L id) && (wayF L id).any (strB n f (getF L id)))) := rfl
  have HX0 : Hid (BoxV ((w.alloc (.cells #[.slice pr n capr] 31)).alloc (.cells #[.bool false] 4)) (w.heap.size + 1) [.bool false]) := by
    have h := boxV_new (w.alloc (.cells #[.slice pr n capr] 31)) [.bool false] 4
    rw [World.size_alloc] at h
    exact h
  have HQ0 : Hid (BoxV ((w.alloc (.cells #[.slice pr n capr] 31)).alloc (.cells #[.bool false] 4)) w.heap.size [.slice pr n capr]) := (boxV_new w [.slice pr n capr] 31).alloc _
  have HB0 : Hid (Below w.heap.size w ((w.alloc (.cells #[.slice pr n capr] 31)).alloc (.cells #[.bool false] 4))) := ((Below.refl _ _).alloc (Nat.le_refl _) _).alloc (by simp) _
  cases hok : (hereF L id && framesB L) with
  | false =>
    have HQ : Hid (thirdF n f L id = false) := by
      show _ = _
      rw [HE.out]
      rw [Bool.and_comm] at hok
      cases h1 : framesB L with
      | false => simp
      | true => rw [h1, Bool.true_and] at hok; rw [hok]; simp
    rw [hok, if_neg (by decide)] at KF0
    unfold frV frNone at KF0
    dsimp only at KF0
    have KF : Hid (∀ W, Below w.heap.size w W → Calls Tryz.prog 68 #[v, .int .i64 id] W fun e w' => e = .returned (.tuple #[.agg #[.int .i64 0, .int .i64 0, .string ⟨#[]⟩, .string ⟨#[]⟩, .int .i64 0, .string ⟨#[]⟩, .bool false, .bool false, .int .i64 0], .bool false]) ∧ Below W.heap.size W w') := KF0
    clear KF0 HE hs hr hG hh hf KR
    generalize thirdF n f L id = R at *
    go_enter Tryz.func30, Tryz.ntmps30
    go_wp2_with fail
    refine (KF.out _ HB0.out).mono ?_
    rintro e w1 ⟨rfl, hb1⟩
    have HX1 : Hid (BoxV w1 (w.heap.size + 1) [.bool false]) := HX0.out.below hb1
    have HQ1 : Hid (BoxV w1 w.heap.size [.slice pr n capr]) := HQ0.out.below hb1
    have B1 : Hid (Below w.heap.size w w1) := HB0.out.trans (hb1.mono HB0.out.size)
    clear hb1 HX0 HB0 HQ0 KF
    generalize hbb : w.heap.size = b at *
    have x0 : w1.cell? ⟨b + 1, 0, none⟩ = some (.bool false) := HX1.out.at (i := 0) rfl
    have xf0 : w1.frozen? ⟨b + 1, 0, none⟩ = false := HX1.out.free (i := 0) rfl
    have hz : b + 1 < w1.heap.size := HX1.out.1
    clear HX1 HQ1
    go_wp2
    exact bodyPost_ret (v := .bool false) (by simp [results, Tryz.results30, go_sem, cell_under9, hz, x0]) rfl ⟨ret_bool HQ.out.symm, by first | (rw [hbb]; exact Below.alloc (Below.setCell B1.out (Nat.le_succ _) _) (by simp; omega) _) | exact Below.alloc (Below.setCell B1.out (Nat.le_succ _) _) (by simp; omega) _⟩
  | true =>
  obtain ⟨hh1, hL⟩ : hereF L id = true ∧ framesB L = true := by rw [Bool.and_eq_true] at hok; exact hok
  rw [hok, if_pos rfl] at KF0
  obtain ⟨ky, hky, -, egy, -⟩ := here_wh hh1
  have huy : uF (getF L id) = true := by rw [egy]; exact okF_u ((framesB_parts hL).2 ky hky)
  have HE2 : Hid (thirdF n f L id = (rulesB n f && (wayF L id).any (strB n f (getF L id)))) := by show _ = _; rw [HE.out, hL, hh1]; simp
  have KS0 : ∀ (x : Fr), uF x = true → rulesB n f = true → ∀ W, Below w.heap.size w W → Calls Tryz.prog 78 #[.slice pr n capr, .agg #[.string x.sc, .string x.ho, .int .i64 x.po, .string x.pt], .agg #[.string (getF L id).sc, .string (getF L id).ho, .int .i64 (getF L id).po, .string (getF L id).pt]] W fun e w' => e = .returned (.bool (!(strB n f (getF L id) x))) ∧ Below W.heap.size W w' := fun x hx hR W hb => by
    have h := sameSite_any (.slice pr n capr) n Br f x.sc x.ho x.pt x.po (getF L id).sc (getF L id).ho (getF L id).pt (getF L id).po W (hG.on hb) (hr.below hb) l1 hf (by have := (urlB_parts hx).2.1; omega) (by have := (urlB_parts huy).2.1; omega)
    rw [sameS_str hR hx huy] at h
    exact h
  have HT : Hid (∀ W, Below w.heap.size w W → Calls Tryz.prog 76 #[v] W fun e w' => ∃ bm, e = .returned (.map (some bm)) ∧ W.heap.size ≤ bm ∧ TreeIs w' bm 10 L ∧ Below W.heap.size W w') := fun W hb => treeOf_any v L B W (hs.below hb) hL
  have HLr : Hid (framesB L = true) := hL
  clear hok HE hs hr hG hh hf hh1 hky egy huy hL ky
  generalize hyy : getF L id = y at *
  clear hyy
  obtain ⟨yid, ypa, ysc, yho, ypo, ypt, ysb, yfl, ytc⟩ := y
  unfold frV at KF0
  dsimp only at KF0 KS0
  have KF : Hid (∀ W, Below w.heap.size w W → Calls Tryz.prog 68 #[v, .int .i64 id] W fun e w' => e = .returned (.tuple #[.agg #[.int .i64 yid, .int .i64 ypa, .string ysc, .string yho, .int .i64 ypo, .string ypt, .bool ysb, .bool yfl, .int .i64 ytc], .bool true]) ∧ Below W.heap.size W w') := KF0
  clear KF0
  generalize hst : strB n f ⟨yid, ypa, ysc, yho, ypo, ypt, ysb, yfl, ytc⟩ = st at *
  clear hst
  cases hrb : rulesB n f with
  | false =>
    have HQ : Hid (thirdF n f L id = false) := by show _ = _; rw [HE2.out, hrb, Bool.false_and]
    rw [hrb] at KR
    clear HE2 KS0 HT HLr hrb
    generalize thirdF n f L id = R at *
    go_enter Tryz.func30, Tryz.ntmps30
    go_wp2_with fail
    refine (KF.out _ HB0.out).mono ?_
    rintro e w1 ⟨rfl, hb1⟩
    have HX1 : Hid (BoxV w1 (w.heap.size + 1) [.bool false]) := HX0.out.below hb1
    have HQ1 : Hid (BoxV w1 w.heap.size [.slice pr n capr]) := HQ0.out.below hb1
    have B1 : Hid (Below w.heap.size w w1) := HB0.out.trans (hb1.mono HB0.out.size)
    clear hb1 HX0 HB0 HQ0 KF
    have q0 : w1.cell? ⟨w.heap.size, 0, none⟩ = some (.slice pr n capr) := HQ1.out.at (i := 0) rfl
    have hz1 : w.heap.size < w1.heap.size := HQ1.out.1
    go_wp2_with fail
    refine (KR.out _ (B1.out.alloc B1.out.size _)).mono ?_
    rintro e w2 ⟨rfl, hb2⟩
    have HX2 : Hid (BoxV w2 (w.heap.size + 1) [.bool false]) := (HX1.out.alloc _).below hb2
    have B2 : Hid (Below w.heap.size w w2) := (B1.out.alloc B1.out.size _).trans (hb2.mono (by simp; exact Nat.le_succ_of_le B1.out.size))
    clear hb2 HX1 HQ1 B1 KR q0 hz1
    generalize hbb : w.heap.size = b at *
    have x0 : w2.cell? ⟨b + 1, 0, none⟩ = some (.bool false) := HX2.out.at (i := 0) rfl
    have xf0 : w2.frozen? ⟨b + 1, 0, none⟩ = false := HX2.out.free (i := 0) rfl
    clear HX2
    go_wp2
    exact bodyPost_ret (v := .bool false) (by simp [results, Tryz.results30, go_sem, x0]) rfl ⟨ret_bool HQ.out.symm, by first | (rw [hbb]; exact Below.setCell B2.out (Nat.le_succ _) _) | exact Below.setCell B2.out (Nat.le_succ _) _⟩
  | true =>
    have HQ : Hid (thirdF n f L id = (wayF L id).any st) := by show _ = _; rw [HE2.out, hrb, Bool.true_and]
    rw [hrb] at KR
    have KS1 : Hid (∀ (x : Fr), uF x = true → ∀ W, Below w.heap.size w W → Calls Tryz.prog 78 #[.slice pr n capr, .agg #[.string x.sc, .string x.ho, .int .i64 x.po, .string x.pt], .agg #[.string ysc, .string yho, .int .i64 ypo, .string ypt]] W fun e w' => e = .returned (.bool (!(st x))) ∧ Below W.heap.size W w') := fun x hx W hb => KS0 x hx hrb W hb
    clear HE2 KS0 hrb
    refine (callsIn_wide (n := 6)).1 ?_
    refine callsIn_of_wp_marks Tryz.func30 rfl trivial ?_ rfl
    simp only [Tryz.ntmps30, List.size_toArray, List.length_cons, List.length_nil, Nat.reduceAdd, Nat.reduceSub, Array.replicate_succ, Array.replicate_zero, List.push_toArray, List.append_toArray, List.nil_append, List.cons_append]
    gi_wp2_with fail
    refine ⟨trivial, ?_⟩
    refine (callsIn_wide.2 (KF.out _ HB0.out)).mono ?_
    rintro e w1 ⟨rfl, hb1⟩
    have HX1 : Hid (BoxV w1 (w.heap.size + 1) [.bool false]) := HX0.out.below hb1
    have HQ1 : Hid (BoxV w1 w.heap.size [.slice pr n capr]) := HQ0.out.below hb1
    have B1 : Hid (Below w.heap.size w w1) := HB0.out.trans (hb1.mono HB0.out.size)
    clear hb1 HX0 HB0 HQ0 KF
    have q0 : w1.cell? ⟨w.heap.size, 0, none⟩ = some (.slice pr n capr) := HQ1.out.at (i := 0) rfl
    have hz1 : w.heap.size < w1.heap.size := HQ1.out.1
    gi_wp2_with fail
    refine ⟨trivial, ?_⟩
    refine (callsIn_wide.2 (KR.out _ (B1.out.alloc B1.out.size _))).mono ?_
    rintro e w2 ⟨rfl, hb2⟩
    have HX2 : Hid (BoxV w2 (w.heap.size + 1) [.bool false]) := (HX1.out.alloc _).below hb2
    have HQ2 : Hid (BoxV w2 w.heap.size [.slice pr n capr]) := (HQ1.out.alloc _).below hb2
    have HF2 : Hid (BoxV w2 w1.heap.size [.int .i64 yid, .int .i64 ypa, .string ysc, .string yho, .int .i64 ypo, .string ypt, .bool ysb, .bool yfl, .int .i64 ytc]) := (boxV_new w1 [.int .i64 yid, .int .i64 ypa, .string ysc, .string yho, .int .i64 ypo, .string ypt, .bool ysb, .bool yfl, .int .i64 ytc] 45).below hb2
    have B2 : Hid (Below w.heap.size w w2) := (B1.out.alloc B1.out.size _).trans (hb2.mono (by simp; exact Nat.le_succ_of_le B1.out.size))
    clear hb2 HX1 HQ1 B1 KR q0
    have z1 : w.heap.size + 1 < w1.heap.size + 1 := by omega
    gi_wp2_with fail
    refine ⟨trivial, ?_⟩
    refine (callsIn_wide.2 (HT.out _ B2.out)).mono ?_
    rintro e w3 ⟨bm, rfl, hbm, hm3, hb3⟩
    have HX3 : Hid (BoxV w3 (w.heap.size + 1) [.bool false]) := HX2.out.below hb3
    have HQ3 : Hid (BoxV w3 w.heap.size [.slice pr n capr]) := HQ2.out.below hb3
    have HF3 : Hid (BoxV w3 w1.heap.size [.int .i64 yid, .int .i64 ypa, .string ysc, .string yho, .int .i64 ypo, .string ypt, .bool ysb, .bool yfl, .int .i64 ytc]) := HF2.out.below hb3
    have B3 : Hid (Below w.heap.size w w3) := B2.out.trans (hb3.mono B2.out.size)
    have HM3 : Hid (TreeIs w3 bm 10 L) := hm3
    have hx2 := HX2.out.1
    have hf2 := HF2.out.1
    clear hb3 hm3 HX2 HQ2 HF2 B2 HT
    gi_wp2_with fail
    refine ⟨trivial, ?_⟩
    refine (callsIn_wide.2 (outward_any bm id _)).mono ?_
    rintro e w4 ⟨rfl, rfl⟩
    gi_wp2_with fail
    obtain ⟨W4, hW4⟩ : ∃ W4, W4 = (w3.alloc (.cells #[.map (some bm)] 92)).alloc (.cells #[.int .i64 id] 2) := ⟨_, rfl⟩
    rw [← hW4]
    have hb4 : Below w3.heap.size w3 W4 := by rw [hW4]; exact ((Below.refl _ _).alloc (Nat.le_refl _) _).alloc (by simp) _
    have z4 : W4.heap.size = w3.heap.size + 1 + 1 := by rw [hW4]; simp
    have ht4 : W4.cell? ⟨w3.heap.size, 0, none⟩ = some (.map (some bm)) := by rw [hW4]; exact (cell_under9 _ _ _ _ (by simp)).trans (by simp)
    have hi4 : W4.cell? ⟨w3.heap.size + 1, 0, none⟩ = some (.int .i64 id) := by rw [hW4]; exact (World.cell?_alloc_at _ _ _ _ (by simp)).trans rfl
    have hX4 : BoxV W4 (w.heap.size + 1) [.bool false] := HX3.out.below hb4
    have hQ4 : BoxV W4 w.heap.size [.slice pr n capr] := HQ3.out.below hb4
    have hF4 : BoxV W4 w1.heap.size [.int .i64 yid, .int .i64 ypa, .string ysc, .string yho, .int .i64 ypo, .string ypt, .bool ysb, .bool yfl, .int .i64 ytc] := HF3.out.below hb4
    have hm4 : TreeIs W4 bm 10 L := HM3.out.below hb4
    have hB4 : Below w.heap.size w W4 := B3.out.trans (hb4.mono B3.out.size)
    have zx : w.heap.size + 1 < w3.heap.size := HX3.out.1
    have zf : w1.heap.size < w3.heap.size := HF3.out.1
    have zb : bm < w3.heap.size := HM3.out.lt
    have hL := HLr.out
    clear hW4 hb4 HX3 HQ3 HF3 HM3 B3 hbm z1 hx2 hf2
    generalize hqb : w.heap.size = qb at *
    generalize hrb : qb + 1 = rb at *
    generalize hfb : w1.heap.size = fb at *
    generalize hbt : w3.heap.size = bt at *
    generalize hbi : bt + 1 = bi at *
    refine wpIn_rangeFunc_ownH rfl (by omega) (gf := 109) (lb := #[.pointer (some ⟨bt, 0, none⟩), .pointer (some ⟨bi, 0, none⟩)]) rfl trivial (enters_of Tryz.func109 (by kernel_rfl) rfl)
      (outward_stopsR (6 - 1) (by omega) bt bi bm none L hL id i1 i2 W4 ht4 hi4 hm4 (by omega) (by omega) (fun e => by cases e) (fun e => by cases e) (fun r e => by cases e)) (fun h k => KpF.trans h k) (KpF.put (Nat.le_refl _)) (Below.refl _ _) (fun _ => rfl)
      (fun pre W => ((BoxV W rb [.bool false] ∧ BoxV W qb [.slice pr n capr] ∧ BoxV W fb [.int .i64 yid, .int .i64 ypa, .string ysc, .string yho, .int .i64 ypo, .string ypt, .bool ysb, .bool yfl, .int .i64 ytc]) ∧ W4.heap.size ≤ W.heap.size ∧ ∀ a ∈ pre, st a.1 = false) ∧ Below qb w W)
      (fun c pre W => (c = .ret ∧ BoxV W rb [.bool true] ∧ ∃ a ∈ pre, st a.1 = true) ∧ Below qb w W)
      (OwnFrom.and (Own.from (fun s X Y row hs hg hr => ⟨⟨hs.1.1.kept hg hr, hs.1.2.1.kept hg hr, hs.1.2.2.kept hg hr⟩, Nat.le_trans hs.2.1 hg.size, hs.2.2⟩) _) (ownFrom_below (Nat.le_of_eq hqb.symm) (by omega)))
      (fun c => OwnFrom.and (Own.from (fun s X Y row hs hg hr => ⟨hs.1, hs.2.1.kept hg hr, hs.2.2⟩) _) (ownFrom_below (Nat.le_of_eq hqb.symm) (by omega)))
      ⟨⟨⟨hX4, hQ4, hF4⟩, Nat.le_refl _, fun a h => absurd h (by simp)⟩, hB4⟩
      (fun x a' W => ∃ Bx, W4.heap.size ≤ Bx ∧ BoxV W Bx (frVals x.1) ∧ a' = { tmps := #[v, .slice pr n capr, .int .i64 id, undef, .pointer (some ⟨qb, 0, none⟩), undef, .pointer (some ⟨rb, 0, none⟩), .pointer (some ⟨fb, 0, none⟩), .bool true, .pointer (some ⟨Bx, 0, none⟩), .tuple #[.agg #[.int .i64 yid, .int .i64 ypa, .string ysc, .string yho, .int .i64 ypo, .string ypt, .bool ysb, .bool yfl, .int .i64 ytc], .bool true], v, .int .i64 id, .tuple #[.agg #[.int .i64 yid, .int .i64 ypa, .string ysc, .string yho, .int .i64 ypo, .string ypt, .bool ysb, .bool yfl, .int .i64 ytc], .bool true], .agg #[.int .i64 yid, .int .i64 ypa, .string ysc, .string yho, .int .i64 ypo, .string ypt, .bool ysb, .bool yfl, .int .i64 ytc], .bool true, .bool true, .bool false, .bool false, .slice pr n capr, .bool true, .bool false, .bool false, v, .map (some bm), .int .i64 id, .func (.func 109) #[] #[.pointer (some ⟨bt, 0, none⟩), .pointer (some ⟨bi, 0, none⟩)], frV x.1, undef, undef, undef, undef, undef, undef, undef], defers := [] })
      (fun x a' s X Y row hs hg hr => by obtain ⟨Bx, h1, h2, h3⟩ := hs; exact ⟨Bx, h1, h2.kept hg (fun r e => (hr r e).2), h3⟩) ?assign ?body ?done ?stop
    case assign =>
      rintro l pre x W K ⟨⟨⟨h1, h2, h2'⟩, hz, hp⟩, h3⟩ hK
      have hx := boxV_new W (frVals x.1) 45
      unfold frVals frV at *
      dsimp only at *
      gi_wp2
      exact hK _ _ ((KeepsOthers.alloc _ _).from _) (KpF.of_below ((Below.refl _ _).alloc (Nat.le_refl _) _)) ⟨⟨⟨h1.alloc _, h2.alloc _, h2'.alloc _⟩, by simp; omega, hp⟩, h3.alloc (Nat.le_of_lt h2.1) _⟩ ⟨W.heap.size, hz, hx, rfl⟩
    case body =>
      rintro l pre x a' W hl ⟨r, hr⟩ ⟨⟨⟨h1, h2, h2'⟩, hz, hp⟩, h3⟩ ⟨Bx, hBx, bX, rfl⟩ hlt
      have KS : Hid (Calls Tryz.prog 78 #[.slice pr n capr, .agg #[.string x.1.sc, .string x.1.ho, .int .i64 x.1.po, .string x.1.pt], .agg #[.string ysc, .string yho, .int .i64 ypo, .string ypt]] W fun e w' => e = .returned (.bool (!(st x.1))) ∧ Below W.heap.size W w') := KS1.out x.1 x.2 W h3
      have H1 : Hid (BoxV W rb [.bool false]) := h1
      have H2 : Hid (BoxV W qb [.slice pr n capr]) := h2
      have H4 : Hid (BoxV W fb [.int .i64 yid, .int .i64 ypa, .string ysc, .string yho, .int .i64 ypo, .string ypt, .bool ysb, .bool yfl, .int .i64 ytc]) := h2'
      have H3 : Hid (Below qb w W) := h3
      have HP : Hid (∀ a ∈ pre, st a.1 = false) := hp
      have HZ : Hid (W4.heap.size ≤ W.heap.size) := hz
      have HXst : Hid (∀ b, st x.1 = b → ∀ a ∈ pre ++ [x], a ∈ pre ∨ st a.1 = b) := fun b h a ha => by
        rcases List.mem_append.1 ha with ha | ha
        · exact .inl ha
        · rw [List.mem_singleton] at ha; subst ha; exact .inr h
      have r0 : W.cell? ⟨qb, 0, none⟩ = some (.slice pr n capr) := h2.at (i := 0) rfl
      have x2 : W.cell? ⟨Bx, 2, none⟩ = some (.string x.1.sc) := bX.at (i := 2) rfl
      have x3 : W.cell? ⟨Bx, 3, none⟩ = some (.string x.1.ho) := bX.at (i := 3) rfl
      have x4 : W.cell? ⟨Bx, 4, none⟩ = some (.int .i64 x.1.po) := bX.at (i := 4) rfl
      have x5 : W.cell? ⟨Bx, 5, none⟩ = some (.string x.1.pt) := bX.at (i := 5) rfl
      have y2 : W.cell? ⟨fb, 2, none⟩ = some (.string ysc) := h2'.at (i := 2) rfl
      have y3 : W.cell? ⟨fb, 3, none⟩ = some (.string yho) := h2'.at (i := 3) rfl
      have y4 : W.cell? ⟨fb, 4, none⟩ = some (.int .i64 ypo) := h2'.at (i := 4) rfl
      have y5 : W.cell? ⟨fb, 5, none⟩ = some (.string ypt) := h2'.at (i := 5) rfl
      clear h1 h2 h2' h3 hp hz hr hlt bX
      gi_wp2_with fail
      refine ⟨trivial, ?_⟩
      refine (CallsIn.inRound l (callsIn_wide.2 KS.out)).mono ?_
      rintro e w5 ⟨rfl, hb5⟩
      have HB5 : Hid (Below W.heap.size W w5) := hb5
      have b0 : w5.cell? ⟨rb, 0, none⟩ = some (.bool false) := (H1.out.below hb5).at (i := 0) rfl
      have bf : w5.frozen? ⟨rb, 0, none⟩ = false := (H1.out.below hb5).free (i := 0) rfl
      have HK5 : Hid (KeepsFrom W4.heap.size W w5) := ⟨hb5.size, fun k o _ hk _ => by rw [hb5.block k (Array.getElem?_eq_some_iff.1 hk).1]; exact hk⟩
      have H3' : Hid (Below qb w w5) := H3.out.trans (hb5.mono (Nat.le_of_lt H2.out.1))
      clear hb5 x2 x3 x4 x5 y2 y3 y4 y5 r0 KS
      cases hsx : st x.1 with
      | true =>
        gi_wp2
        exact ⟨HK5.out.trans ((KeepsOthers.setCell _ _ _).from _), ⟨rfl, (H1.out.below HB5.out).set 0 (by simp) _, x, by simp, hsx⟩, H3'.out.setCell (p := ⟨rb, 0, none⟩) (show qb ≤ rb from by omega) _⟩
      | false =>
        gi_wp2
        exact ⟨HK5.out, KpF.of_below HB5.out, ⟨⟨H1.out.below HB5.out, H2.out.below HB5.out, H4.out.below HB5.out⟩, Nat.le_trans HZ.out HB5.out.size, fun a ha => (HXst.out false hsx a ha).elim (fun h => HP.out a h) (fun h => h)⟩, H3'.out⟩
    case done =>
      rintro D ys W hD hys ⟨⟨⟨h1, h2, h2'⟩, hz, hp⟩, h3⟩ hK
      have HR : Hid (thirdF n f L id = false) := by
        show _ = _
        rw [HQ.out, ← hys, List.any_eq_false]
        intro a ha
        obtain ⟨z, hz1, rfl⟩ := List.mem_map.1 ha
        rw [hp z hz1]; decide
      have HK : Hid (W.heap[D]? = some (.deferred (some []))) := hK
      have H1 : Hid (BoxV W rb [.bool false]) := h1
      have H3 : Hid (Below qb w W) := h3
      have b0 : W.cell? ⟨rb, 0, none⟩ = some (.bool false) := h1.at (i := 0) rfl
      have bf : W.frozen? ⟨rb, 0, none⟩ = false := h1.free (i := 0) rfl
      clear hK h3 h1 h2 h2' hp hys hz
      gi_wp2
      obtain ⟨Wz, hWz⟩ : ∃ Wz, Wz = W.setCell ⟨rb, 0, none⟩ (.bool false) := ⟨_, rfl⟩
      rw [← hWz]
      have hKz : Wz.heap[D]? = some (.deferred (some [])) := by rw [hWz]; exact (KeepsOthers.setCell _ _ _).same D _ HK.out rfl
      have hZ : BoxV Wz rb [.bool false] := by rw [hWz]; exact H1.out.set 0 (by simp) _
      have hBz : Below qb w Wz := by rw [hWz]; exact H3.out.setCell (p := ⟨rb, 0, none⟩) (show qb ≤ rb from by omega) _
      clear hWz
      have hQ : BoxV (Wz.putObj D (.deferred none)) rb [.bool false] := hZ.kept (grownBy_putObj' Wz D _) (fun r e => by cases e; exact ⟨_, hKz, rfl⟩)
      have q0 : (Wz.putObj D (.deferred none)).cell? ⟨rb, 0, none⟩ = some (.bool false) := hQ.at (i := 0) rfl
      refine ⟨by simp, .inl ⟨_, _, rfl, run_takeDeferred hKz, ?_⟩⟩
      exact ⟨.bool false, by simp [results, Tryz.results30, go_sem, q0], by rw [HR.out], by rw [hqb]; exact hBz.trans (belowK_b (w := W4) (by omega) Wz D _ _ hD hKz rfl rfl)⟩
    case stop =>
      rintro D c pre W hD hpre ⟨⟨rfl, h1, a, ha, hsa⟩, h3⟩ hK
      have HR : Hid (thirdF n f L id = true) := by
        show _ = _
        rw [HQ.out, List.any_eq_true]
        exact ⟨a.1, hpre.subset (List.mem_map.2 ⟨a, ha, rfl⟩), hsa⟩
      have hQ : BoxV (W.putObj D (.deferred none)) rb [.bool true] := h1.kept (grownBy_putObj' W D _) (fun r e => by cases e; exact ⟨_, hK, rfl⟩)
      have q0 : (W.putObj D (.deferred none)).cell? ⟨rb, 0, none⟩ = some (.bool true) := hQ.at (i := 0) rfl
      gi_wp2
      refine ⟨by simp, .inl ⟨_, _, rfl, run_takeDeferred hK, ?_⟩⟩
      exact ⟨.bool true, by simp [results, Tryz.results30, go_sem, q0], by rw [HR.out], by rw [hqb]; exact h3.trans (belowK_b (w := W4) (by omega) W D _ _ hD hK rfl rfl)⟩
end Go.Proofs.YtnpaekjiafaahaaGreatDoor

/- The walk of the program's FrameTop. Written by laws9.py. -/
namespace Go.Proofs.YtnpaekjiafaahaaGreatDoor
open Go.RowKit

theorem field_fr_id (xid xpa xpo xtc : Int) (xsc xho xpt : ByteArray) (xsb xfl : Bool) (W : World) : Sem.run Tryz.prog (Instr.field 45 (.agg #[.int .i64 xid, .int .i64 xpa, .string xsc, .string xho, .int .i64 xpo, .string xpt, .bool xsb, .bool xfl, .int .i64 xtc]) 0) W = .ok (.int .i64 xid) W := by kernel_rfl
set_option maxRecDepth 10000 in
set_option maxHeartbeats 4000000 in
theorem frameTop_any (v : Value) (L : List Fr) (B : Nat) (id : Int) (w : World) (hG : MaxI w) (hs : SliceF w B v L) (hn : L.length ≤ 1048576) (hh : ∀ i, i < L.length → (atF L i).ho.size ≤ 1048576) (i1 : -9223372036854775808 ≤ id) (i2 : id ≤ 9223372036854775807) :
    Calls Tryz.prog 19 #[v, .int .i64 id] w fun e w' => e = .returned (.int .i64 (topF L id)) ∧ Below w.heap.size w w' := by
  have KR : Hid (Calls Tryz.prog 16 #[v] w fun e w' => e = .returned (.bool (framesB L)) ∧ Below w.heap.size w w') := framesRight_any v L B w hG hs hn hh
  have KT0 : framesB L = true → ∀ W, Below w.heap.size w W → Calls Tryz.prog 70 #[v, .int .i64 id] W fun e w' => e = .returned (frV (topFr L id)) ∧ Below W.heap.size W w' := fun h W hb => topOf_any v L B id W (hs.below hb) h i1 i2
  have HE : Hid (framesB L = false → topF L id = 0) := fun h => by unfold topF; rw [h, Bool.false_and, if_neg (by decide)]
  have HT : Hid (framesB L = true → topF L id = (topFr L id).id) := fun h => topF_right h id
  have hfld := field_fr_id
  clear hs hG hh
  generalize topF L id = R at *
  generalize topFr L id = y at *
  generalize framesB L = fb at *
  go_enter Tryz.func19, Tryz.ntmps19
  go_wp2_with fail
  refine KR.out.mono ?_
  rintro e w1 ⟨rfl, hb1⟩
  have B1 : Hid (Below w.heap.size w w1) := hb1
  clear hb1 KR
  cases fb with
  | false =>
    have HQ : Hid (R = 0) := HE.out rfl
    go_wp2
    go_ret
    exact ⟨ret_int HQ.out.symm, B1.out⟩
  | true =>
    have HQ : Hid (R = y.id) := HT.out rfl
    have KT1 := KT0 rfl _ B1.out
    clear HE HT KT0
    obtain ⟨yid, ypa, ysc, yho, ypo, ypt, ysb, yfl, ytc⟩ := y
    unfold frV at KT1
    dsimp only at *
    have KT : Hid (Calls Tryz.prog 70 #[v, .int .i64 id] w1 fun e w' => e = .returned (.agg #[.int .i64 yid, .int .i64 ypa, .string ysc, .string yho, .int .i64 ypo, .string ypt, .bool ysb, .bool yfl, .int .i64 ytc]) ∧ Below w1.heap.size w1 w') := KT1
    clear KT1
    go_wp2_with fail
    refine KT.out.mono ?_
    rintro e w2 ⟨rfl, hb2⟩
    have B2 : Hid (Below w.heap.size w w2) := B1.out.trans (hb2.mono B1.out.size)
    clear hb2 KT
    go_wp2
    go_ret
    exact ⟨ret_int HQ.out.symm, B2.out⟩
end Go.Proofs.YtnpaekjiafaahaaGreatDoor

/- The walk of the program's FrameKey. Written by keys9.py. -/
namespace Go.Proofs.YtnpaekjiafaahaaGreatDoor
open Go.RowKit

theorem field_fr_url (xid xpa xpo xtc : Int) (xsc xho xpt : ByteArray) (xsb xfl : Bool) (W : World) : Sem.run Tryz.prog (Instr.field 45 (.agg #[.int .i64 xid, .int .i64 xpa, .string xsc, .string xho, .int .i64 xpo, .string xpt, .bool xsb, .bool xfl, .int .i64 xtc]) 2) W = .ok (.agg #[.string xsc, .string xho, .int .i64 xpo, .string xpt]) W := by kernel_rfl
set_option maxRecDepth 10000 in
set_option maxHeartbeats 8000000 in
theorem frameKey_any (v rv : Value) (L : List Fr) (B Br n : Nat) (f : Nat → ByteArray) (id : Int) (w : World) (hG : MaxI w) (hT : PowI w) (hs : SliceF w B v L) (hn : L.length ≤ 1048576) (hh : ∀ i, i < L.length → (atF L i).ho.size ≤ 1048576) (hr : SliceS w Br rv n f) (l1 : n ≤ 1048576) (hf : ∀ i, i < n → (f i).size ≤ 1048576) (i1 : -9223372036854775808 ≤ id) (i2 : id ≤ 9223372036854775807) :
    Calls Tryz.prog 23 #[v, rv, .int .i64 id] w fun e w' => e = .returned (.string (keyF n f L id)) ∧ Below w.heap.size w w' := by
  have KF0 : ∀ W, Below w.heap.size w W → Calls Tryz.prog 68 #[v, .int .i64 id] W fun e w' => e = .returned (.tuple #[frV (if (hereF L id && framesB L) = true then getF L id else frNone), .bool (hereF L id && framesB L)]) ∧ Below W.heap.size W w' := fun W hb => frameOf_any v L B id W (hG.on hb) (hs.below hb) hn hh
  have KR : Hid (∀ W, Below w.heap.size w W → Calls Tryz.prog 52 #[rv] W fun e w' => e = .returned (.bool (rulesB n f)) ∧ Below W.heap.size W w') := fun W hb => rulesRight_any rv n Br f W (hG.on hb) (hr.below hb) l1 hf
  obtain ⟨pr, capr, rfl⟩ : ∃ p cap, rv = .slice p n cap := by obtain ⟨p, c, e, -⟩ := hr; exact ⟨p, c, e⟩
  have HE : Hid ((framesB L && rulesB n f && hereF L id) = false → keyF n f L id = ⟨#[]⟩) := fun h => by unfold keyF; rw [h]; rfl
  cases hok : (hereF L id && framesB L) with
  | false =>
    have HQ : Hid (keyF n f L id = ⟨#[]⟩) := HE.out (by
      rw [Bool.and_comm] at hok
      cases h1 : framesB L with
      | false => simp
      | true => rw [h1, Bool.true_and] at hok; rw [hok]; simp)
    rw [hok, if_neg (by decide)] at KF0
    unfold frV frNone at KF0
    dsimp only at KF0
    have KF : Hid (∀ W, Below w.heap.size w W → Calls Tryz.prog 68 #[v, .int .i64 id] W fun e w' => e = .returned (.tuple #[.agg #[.int .i64 0, .int .i64 0, .string ⟨#[]⟩, .string ⟨#[]⟩, .int .i64 0, .string ⟨#[]⟩, .bool false, .bool false, .int .i64 0], .bool false]) ∧ Below W.heap.size W w') := KF0
    clear KF0 HE hs hr hG hT hh hf KR
    generalize keyF n f L id = R at *
    go_enter Tryz.func23, Tryz.ntmps23
    go_wp2_with fail
    refine (KF.out _ (Below.refl _ _)).mono ?_
    rintro e w1 ⟨rfl, hb1⟩
    have B1 : Hid (Below w.heap.size w w1) := hb1
    clear hb1 KF
    go_wp2
    go_ret
    exact ⟨ret_text HQ.out.symm, B1.out.alloc B1.out.size _⟩
  | true =>
  obtain ⟨hh1, hL⟩ : hereF L id = true ∧ framesB L = true := by rw [Bool.and_eq_true] at hok; exact hok
  rw [hok, if_pos rfl] at KF0
  obtain ⟨ky, hky, -, egy, -⟩ := here_wh hh1
  have hob : originB (ogF (getF L id)).sc (ogF (getF L id)).ho (ogF (getF L id)).po (ogF (getF L id)).no = true := by rw [egy]; exact ogF_right hL hky
  have hoh : (ogF (getF L id)).ho.size ≤ 1048576 := by rw [egy]; exact ogF_ho hL hky
  have hos : (ogT (ogF (getF L id))).size ≤ 300 := originT_size hob
  have KO0 : ∀ W, Below w.heap.size w W → Calls Tryz.prog 18 #[v, .int .i64 id] W fun e w' => e = .returned (ogV (ogF (getF L id))) ∧ Below W.heap.size W w' := fun W hb => by
    have h := frameOrigin_any v L B id W (hG.on hb) (hs.below hb) hn hh
    have e : orgF L id = ogF (getF L id) := by unfold orgF; rw [hok]; rfl
    rw [e] at h; exact h
  have KX0 : ∀ W, Below w.heap.size w W → Calls Tryz.prog 71 #[ogV (ogF (getF L id))] W fun e w' => e = .returned (.string (ogT (ogF (getF L id)))) ∧ Below W.heap.size W w' := fun W hb => originText_any _ _ _ _ W (hG.on hb) (hT.on hb) hoh
  have KP0 : ∀ W, Below w.heap.size w W → Calls Tryz.prog 70 #[v, .int .i64 id] W fun e w' => e = .returned (frV (topFr L id)) ∧ Below W.heap.size W w' := fun W hb => topOf_any v L B id W (hs.below hb) hL i1 i2
  have htu := topFr_u hL hh1
  have htu2 := htu
  unfold uF at htu2
  have hss : (siteT n f (topFr L id).sc (topFr L id).ho).size ≤ 30000 := siteT_size (urlB_parts htu2).1 (urlB_parts htu2).2.1
  have KS0 : rulesB n f = true → ∀ W, Below w.heap.size w W → Calls Tryz.prog 72 #[.slice pr n capr, .agg #[.string (topFr L id).sc, .string (topFr L id).ho, .int .i64 (topFr L id).po, .string (topFr L id).pt]] W fun e w' => e = .returned (.string (siteT n f (topFr L id).sc (topFr L id).ho)) ∧ Below W.heap.size W w' := fun hR W hb => by
    have h := siteOf_any (.slice pr n capr) n Br f (topFr L id).sc (topFr L id).ho (topFr L id).pt (topFr L id).po W (hG.on hb) (hr.below hb) l1 hf (by have := (urlB_parts htu2).2.1; omega)
    have e : siteOf n f (topFr L id).sc (topFr L id).ho (topFr L id).pt (topFr L id).po = siteT n f (topFr L id).sc (topFr L id).ho := by unfold siteOf; rw [if_pos ⟨hR, htu2⟩]
    rw [e] at h; exact h
  have K3 : Hid (∀ W, Below w.heap.size w W → Calls Tryz.prog 30 #[v, .slice pr n capr, .int .i64 id] W fun e w' => e = .returned (.bool (thirdF n f L id)) ∧ Below W.heap.size W w') := fun W hb => frameThird_any v (.slice pr n capr) L B Br n f id W (hG.on hb) (hs.below hb) hn hh (hr.below hb) l1 hf i1 i2
  have HE2 : Hid (rulesB n f = true → keyF n f L id = if thirdF n f L id = true then (ogT (ogF (getF L id)) ++ ⟨#[94]⟩ ++ siteT n f (topFr L id).sc (topFr L id).ho) ++ ⟨#[33]⟩ else ogT (ogF (getF L id)) ++ ⟨#[94]⟩ ++ siteT n f (topFr L id).sc (topFr L id).ho) := fun hR => by
    unfold keyF keyT
    rw [hL, hR, hh1]; rfl
  have HEf : Hid (rulesB n f = false → keyF n f L id = ⟨#[]⟩) := fun h => HE.out (by rw [h]; simp)
  have hfu := field_fr_url
  clear hok HE hs hr hG hT hh hf hh1 hky egy hL ky hob hoh htu htu2
  generalize keyF n f L id = R at *
  generalize thirdF n f L id = th at *
  generalize hTF : topFr L id = tf at *
  generalize siteT n f tf.sc tf.ho = S at *
  generalize ogT (ogF (getF L id)) = O at *
  generalize ogF (getF L id) = og at *
  generalize getF L id = y at *
  generalize rulesB n f = rb at *
  obtain ⟨yid, ypa, ysc, yho, ypo, ypt, ysb, yfl, ytc⟩ := y
  obtain ⟨osc, oho, opo, ono⟩ := og
  obtain ⟨tid, tpa, tsc, tho, tpo, tpt, tsb, tfl, ttc⟩ := tf
  unfold frV at KF0 KP0
  unfold ogV at KO0 KX0
  dsimp only at *
  have KF : Hid (∀ W, Below w.heap.size w W → Calls Tryz.prog 68 #[v, .int .i64 id] W fun e w' => e = .returned (.tuple #[.agg #[.int .i64 yid, .int .i64 ypa, .string ysc, .string yho, .int .i64 ypo, .string ypt, .bool ysb, .bool yfl, .int .i64 ytc], .bool true]) ∧ Below W.heap.size W w') := KF0
  have KO : Hid (∀ W, Below w.heap.size w W → Calls Tryz.prog 18 #[v, .int .i64 id] W fun e w' => e = .returned (.agg #[.string osc, .string oho, .int .i64 opo, .int .i64 ono]) ∧ Below W.heap.size W w') := KO0
  have KX : Hid (∀ W, Below w.heap.size w W → Calls Tryz.prog 71 #[.agg #[.string osc, .string oho, .int .i64 opo, .int .i64 ono]] W fun e w' => e = .returned (.string O) ∧ Below W.heap.size W w') := KX0
  have KP : Hid (∀ W, Below w.heap.size w W → Calls Tryz.prog 70 #[v, .int .i64 id] W fun e w' => e = .returned (.agg #[.int .i64 tid, .int .i64 tpa, .string tsc, .string tho, .int .i64 tpo, .string tpt, .bool tsb, .bool tfl, .int .i64 ttc]) ∧ Below W.heap.size W w') := KP0
  have KS : Hid (rb = true → ∀ W, Below w.heap.size w W → Calls Tryz.prog 72 #[.slice pr n capr, .agg #[.string tsc, .string tho, .int .i64 tpo, .string tpt]] W fun e w' => e = .returned (.string S) ∧ Below W.heap.size W w') := KS0
  clear KF0 KO0 KX0 KP0 KS0
  go_enter Tryz.func23, Tryz.ntmps23
  go_wp2_with fail
  refine (KF.out _ (Below.refl _ _)).mono ?_
  rintro e w1 ⟨rfl, hb1⟩
  have B1 : Hid (Below w.heap.size w w1) := hb1
  clear hb1 KF
  go_wp2_with fail
  refine (KR.out _ (B1.out.alloc B1.out.size _)).mono ?_
  rintro e w2 ⟨rfl, hb2⟩
  have B2 : Hid (Below w.heap.size w w2) := (B1.out.alloc B1.out.size _).trans (hb2.mono (B1.out.alloc B1.out.size _).size)
  clear hb2 B1 KR
  cases rb with
  | false =>
    have HQ : Hid (R = ⟨#[]⟩) := HEf.out rfl
    go_wp2
    go_ret
    exact ⟨ret_text HQ.out.symm, B2.out⟩
  | true =>
  have KS1 : Hid (∀ W, Below w.heap.size w W → Calls Tryz.prog 72 #[.slice pr n capr, .agg #[.string tsc, .string tho, .int .i64 tpo, .string tpt]] W fun e w' => e = .returned (.string S) ∧ Below W.heap.size W w') := KS.out rfl
  have HR : Hid (R = if th = true then (O ++ ⟨#[94]⟩ ++ S) ++ ⟨#[33]⟩ else O ++ ⟨#[94]⟩ ++ S) := HE2.out rfl
  clear KS HE2 HEf
  go_wp2_with fail
  refine (KO.out _ B2.out).mono ?_
  rintro e w3 ⟨rfl, hb3⟩
  have B3 : Hid (Below w.heap.size w w3) := B2.out.trans (hb3.mono B2.out.size)
  clear hb3 B2 KO
  go_wp2_with fail
  refine (KX.out _ B3.out).mono ?_
  rintro e w4 ⟨rfl, hb4⟩
  have B4 : Hid (Below w.heap.size w w4) := B3.out.trans (hb4.mono B3.out.size)
  clear hb4 B3 KX
  have e94 : (⟨#[94]⟩ : ByteArray).size = 1 := rfl
  have e33 : (⟨#[33]⟩ : ByteArray).size = 1 := rfl
  go_wp2_with fail
  refine (KP.out _ B4.out).mono ?_
  rintro e w5 ⟨rfl, hb5⟩
  have B5 : Hid (Below w.heap.size w w5) := B4.out.trans (hb5.mono B4.out.size)
  clear hb5 B4 KP
  go_wp2_with fail
  refine (KS1.out _ B5.out).mono ?_
  rintro e w6 ⟨rfl, hb6⟩
  have B6 : Hid (Below w.heap.size w w6) := B5.out.trans (hb6.mono B5.out.size)
  clear hb6 B5 KS1
  have hz1 : (O ++ ⟨#[94]⟩ ++ S : ByteArray).size ≤ 40000 := by rw [ByteArray.size_append, ByteArray.size_append, e94]; omega
  go_wp2_with fail
  refine (K3.out _ B6.out).mono ?_
  rintro e w7 ⟨rfl, hb7⟩
  have B7 : Hid (Below w.heap.size w w7) := B6.out.trans (hb7.mono B6.out.size)
  clear hb7 B6 K3
  cases th with
  | true =>
    have HQ : Hid (R = O ++ ⟨#[94]⟩ ++ S ++ ⟨#[33]⟩) := by show R = _; rw [HR.out]; rfl
    go_wp2
    go_ret
    exact ⟨ret_text HQ.out.symm, B7.out⟩
  | false =>
    have HQ : Hid (R = O ++ ⟨#[94]⟩ ++ S) := by show R = _; rw [HR.out]; rfl
    go_wp2
    go_ret
    exact ⟨ret_text HQ.out.symm, B7.out⟩
end Go.Proofs.YtnpaekjiafaahaaGreatDoor

/- The law FnExactFramesRight, walked. -/
namespace Go.Proofs.YtnpaekjiafaahaaGreatDoor
open Go.RowKit

/-- the texts of frames are no longer than what is asked -/
def szF9 (L : List Fr) : Prop := ∀ i, i < L.length → (atF L i).sc.size + (atF L i).ho.size + (atF L i).pt.size ≤ 1048576
end Go.Proofs.YtnpaekjiafaahaaGreatDoor

/- A slice of texts that came in, as a law's frame opens it. -/
namespace Go.Proofs.YtnpaekjiafaahaaGreatDoor
open Go.ChangeShapes Go.WideShapes Go.ChangeAt Go.RowKit

theorem strRow_of {H : Type} {enc : TypeId × Value → H} {W : World} {a : Option Addr} {len cap : Nat} {d : DataW H} {p : List MemPlace}
    (h : ∃ fuel, DataW.trod enc Tryz.prog W 0 (fun _ => true) true fuel 31 (Value.slice a len cap).cells.toList = some (d, p)) : (∃ f, StrRow W a len f) ∧ len ≤ maxLen := by
  obtain ⟨fuel, hf⟩ := h
  rcases Go.Deep.open_strs Tryz.underlying31 Tryz.underlying9 (by kernel_rfl) hf with ⟨hcs, _⟩ | ⟨x, l, c, m, f, hcs, _, hl, hm, hmm, _, hcell⟩
  · simp [Value.cells] at hcs
    obtain ⟨rfl, rfl, rfl⟩ := hcs
    exact ⟨⟨fun _ => ⟨#[]⟩, fun i hi => absurd hi (by omega)⟩, Nat.zero_le _⟩
  · simp [Value.cells] at hcs
    obtain ⟨rfl, rfl, rfl⟩ := hcs
    refine ⟨⟨f, fun i hi => ?_⟩, by omega⟩
    have hmc : m = cap := by simpa using hmm
    obtain ⟨hc, hs⟩ := hcell i (by omega)
    refine ⟨x, rfl, ?_, hc, hs⟩
    have hb : (x.add i).block < W.heap.size := by
      by_cases h : (x.add i).block < W.heap.size
      · exact h
      · exfalso
        simp [World.cell?, Array.getElem?_eq_none (show W.heap.size ≤ (x.add i).block by omega)] at hc
    have e : (x.add i).block = x.block := by unfold Addr.add; split <;> rfl
    rw [e] at hb; exact hb
end Go.Proofs.YtnpaekjiafaahaaGreatDoor

/- The law FnExactFrameKey, walked. Written by keys9.py. -/
namespace Go.Proofs.YtnpaekjiafaahaaGreatDoor
open Go.RowKit

set_option maxRecDepth 10000 in
set_option maxHeartbeats 8000000 in
theorem lawFrameKey_any (a : Option Addr) (cap : Nat) (L : List Fr) (ra : Option Addr) (n rcap : Nat) (f : Nat → ByteArray) (id : Int) (w : World) (hG : MaxI w) (hT : PowI w) (hr : FrRow w a L) (hn : L.length ≤ maxLen) (hs : StrRow w ra n f) (hm : n ≤ maxLen) (hid : (Lit.int .i64 id).wf = true) :
    Calls Tryz.prog 5 #[.slice a L.length cap, .slice ra n rcap, .int .i64 id] w fun e w' => e = .returned (.bool true) ∧ Below w.heap.size w w' := by
  have HR : Hid (FrRow w a L) := hr
  have HS : Hid (StrRow w ra n f) := hs
  have HG : Hid (MaxI w) := hG
  have HT : Hid (PowI w) := hT
  have HI : Hid (-9223372036854775808 ≤ id ∧ id ≤ 9223372036854775807) := fr_wf hid
  clear hr hG hT hid hs
  go_enter Tryz.func5, Tryz.ntmps5
  go_wp2_with fail
  refine (szFrameS_any a cap L 1048576 _ HR.out hn (by decide) (by decide)).mono ?_
  rintro e w0 ⟨⟨r, rfl, hr⟩, hb0⟩
  have B0 : Hid (Below w.heap.size w w0) := hb0
  clear hb0
  rcases hr with hr | ⟨r0, r1, hl, hf⟩
  · go_wp2
    go_ret
    exact ⟨rfl, B0.out⟩
  have q : decide (r < 0) = false := by rw [decide_eq_false_iff_not]; omega
  have HF : Hid (szF9 L) := hf
  clear hf
  go_wp2_with fail
  refine (szStringS_any ra n rcap f r _ (HS.out.below B0.out) hm r0 r1).mono ?_
  rintro e w0' ⟨⟨s, rfl, hs⟩, hw0⟩
  have HW0 : Hid (w0' = w0) := hw0
  subst hw0
  rcases hs with hs | ⟨s0, s1, hl2, hf2⟩
  · go_wp2
    go_ret
    exact ⟨rfl, B0.out⟩
  have qs : decide (s < 0) = false := by rw [decide_eq_false_iff_not]; omega
  have hl3 : n ≤ 1048576 := by omega
  have HF2 : Hid (∀ i, i < n → (f i).size ≤ 1048576) := fun i hi => by have := hf2 i hi; omega
  clear hf2 r0 r1 s0 s1 hl2 HW0
  have KI : Hid (∀ (v rv : Value) (B B' : Nat) (W : World), Below w.heap.size w W → SliceF W B v L → SliceS W B' rv n f → Calls Tryz.prog 23 #[v, rv, .int .i64 id] W fun e w' => e = .returned (.string (keyF n f L id)) ∧ Below W.heap.size W w') := fun v rv B B' W hb h1 h2 => frameKey_any v rv L B B' n f id W (HG.out.on hb) (HT.out.on hb) h1 hl (fun i hi => by have := HF.out i hi; omega) h2 hl3 HF2.out HI.out.1 HI.out.2
  have KS : Hid (∀ (v rv : Value) (B B' : Nat) (W : World), SliceF W B v L → SliceS W B' rv n f → Calls Tryz.prog 27 #[v, rv, .int .i64 id] W fun e w' => e = .returned (.string (keyF n f L id)) ∧ Below W.heap.size W w') := fun v rv B B' W h1 h2 => specFrameKey_any v rv L B B' n f id W h1 hl h2 hl3 HF2.out
  clear HG HT HI HF HF2
  generalize keyF n f L id = d at *
  go_wp2_with fail
  refine (toFrameS_any a cap L _ (HR.out.below B0.out) hl).mono ?_
  rintro e w1 ⟨v1, rfl, s1, hb1⟩
  have B1 : Hid (Below w.heap.size w w1) := B0.out.trans (hb1.mono B0.out.size)
  obtain ⟨b1, s1⟩ : ∃ b, SliceF w1 b v1 L := ⟨_, s1⟩
  have S1 : Hid (SliceF w1 b1 v1 L) := s1
  clear s1 hb1 B0
  go_wp2_with fail
  refine (toStringS_any ra n rcap f _ (HS.out.below B1.out) hl3).mono ?_
  rintro e w2 ⟨v2, rfl, s2, hb2⟩
  have B2 : Hid (Below w.heap.size w w2) := B1.out.trans (hb2.mono B1.out.size)
  have S12 : Hid (SliceF w2 b1 v1 L) := S1.out.below hb2
  obtain ⟨b2, s2⟩ : ∃ b, SliceS w2 b v2 n f := ⟨_, s2⟩
  have S2 : Hid (SliceS w2 b2 v2 n f) := s2
  clear s2 hb2 B1 S1
  go_wp2_with fail
  refine (KS.out v1 v2 b1 b2 _ S12.out S2.out).mono ?_
  rintro e w3 ⟨rfl, hb3⟩
  have B3 : Hid (Below w.heap.size w w3) := B2.out.trans (hb3.mono B2.out.size)
  clear hb3 B2 S12 S2 KS
  go_wp2_with fail
  refine (toFrameS_any a cap L _ (HR.out.below B3.out) hl).mono ?_
  rintro e w4 ⟨v4, rfl, s4, hb4⟩
  have B4 : Hid (Below w.heap.size w w4) := B3.out.trans (hb4.mono B3.out.size)
  obtain ⟨b4, s4⟩ : ∃ b, SliceF w4 b v4 L := ⟨_, s4⟩
  have S4 : Hid (SliceF w4 b4 v4 L) := s4
  clear s4 hb4 B3
  go_wp2_with fail
  refine (toStringS_any ra n rcap f _ (HS.out.below B4.out) hl3).mono ?_
  rintro e w5 ⟨v5, rfl, s5, hb5⟩
  have B5 : Hid (Below w.heap.size w w5) := B4.out.trans (hb5.mono B4.out.size)
  have S45 : Hid (SliceF w5 b4 v4 L) := S4.out.below hb5
  obtain ⟨b5, s5⟩ : ∃ b, SliceS w5 b v5 n f := ⟨_, s5⟩
  have S5 : Hid (SliceS w5 b5 v5 n f) := s5
  clear s5 hb5 B4 S4
  go_wp2_with fail
  refine (KI.out v4 v5 b4 b5 _ B5.out S45.out S5.out).mono ?_
  rintro e w6 ⟨rfl, hb6⟩
  have B6 : Hid (Below w.heap.size w w6) := B5.out.trans (hb6.mono B5.out.size)
  have S46 : Hid (SliceF w6 b4 v4 L) := S45.out.below hb6
  have S6 : Hid (SliceS w6 b5 v5 n f) := S5.out.below hb6
  clear hb6 B5 S45 S5 KI
  have hdd : (d.toList == d.toList) = true := by simp
  have hdn : (d.toList != d.toList) = false := by simp
  go_wp2_with fail
  refine (toFrameS_any a cap L _ (HR.out.below B6.out) hl).mono ?_
  rintro e w7 ⟨v7, rfl, s7, hb7⟩
  have S7 := S46.out.below hb7
  have B7 : Hid (Below w.heap.size w w7) := B6.out.trans (hb7.mono B6.out.size)
  have S67 : Hid (SliceS w7 b5 v5 n f) := S6.out.below hb7
  clear hb7
  go_wp2_with fail
  refine (eqFrameS_any v4 v7 L _ _ _ S7 s7 hl).mono ?_
  rintro e w8 ⟨rfl, hb8⟩
  have B8 : Hid (Below w.heap.size w w8) := B7.out.trans (hb8.mono B7.out.size)
  have S68 : Hid (SliceS w8 b5 v5 n f) := S67.out.below hb8
  clear hb8 S7 s7 S67
  go_wp2_with fail
  refine (toStringS_any ra n rcap f _ (HS.out.below B8.out) hl3).mono ?_
  rintro e w9 ⟨v9, rfl, s9, hb9⟩
  have B9 : Hid (Below w.heap.size w w9) := B8.out.trans (hb9.mono B8.out.size)
  have S69 := S68.out.below hb9
  clear hb9 S68
  go_wp2_with fail
  refine (eqStringS_any v5 v9 n _ _ f _ S69 s9 hl3).mono ?_
  rintro e w10 ⟨rfl, hb10⟩
  go_wp2
  go_ret
  exact ⟨rfl, B9.out.trans (hb10.mono B9.out.size)⟩
end Go.Proofs.YtnpaekjiafaahaaGreatDoor

/- The lifting of a law's walk to a row that lists package-level variables, the world's shape kept; what the shape and the list give a walk. -/
namespace Go.Proofs.YtnpaekjiafaahaaGreatDoor
open Go.RowKit

theorem Ld.own : ownKnob Tryz.prog.godebug = none := by kernel_rfl
theorem Ld.laidOut : laidOutB Tryz.prog = true := by kernel_rfl
set_option maxRecDepth 10000 in
theorem lift_laid {H : Type} {enc : TypeId × Value → H} {os : Os} {f : FuncId} {fn : Func} {s : ChangeSpec} {X : World → Prop} (hX : ∀ (w w' : World), w.heap = w'.heap → X w → X w')
    (started : os.Started) (noInit : Tryz.prog.inits.idxOf? f = none) (hfn : Tryz.prog.funcs[f]? = some fn)
    (start : ∃ (w : World) (tape : Tape) (i : Input), w.os = os ∧ (w.forCall tape i).Shaped Tryz.prog ∧ i.vars = [] ∧ Input.okWide Tryz.prog (w.forCall tape i) .any w.heap.size f i ∧
      ((s.pre enc Tryz.prog fn [] false (w.forCall tape i).memory i.args ∧ X (w.forCall tape i).memory) ∧ sizedMet enc Tryz.prog fn (OpenSpec.ofChange s) false (w.forCall tape i).memory i.args) ∧ Assume.holds {} Tryz.prog (lone (Frame.enter Tryz.prog f i.args .normal) [] (w.forCall tape i)))
    (walk : ∀ (W : World) (base : Nat) (args : Array Value) (ds gs : List (DataW H)) (before : List MemPlace),
      (∀ (j : Nat) t v, fn.params[j]? = some t → args[j]? = some v → Value.okWide Tryz.prog W .any base t v) →
      DataW.Whole enc Tryz.prog fn.params.toList s.vars false W args.toList ds gs before → X W → W.ShapedOpen Tryz.prog →
      Calls Tryz.prog f args W fun e W' => ∃ v, e = .returned v ∧ s.post enc Tryz.prog fn false true false false W args v W') :
    ReturnsInHanded {} Tryz.checked os f .any (fun w args => (s.pre enc Tryz.prog fn [] false w args ∧ X w) ∧ sizedMet enc Tryz.prog fn (OpenSpec.ofChange s) false w args) (s.post enc Tryz.prog fn false true false false) := by
  refine returnsInHanded_of_calls (C := Tryz.checked) Ld.own started noInit start ?_
  intro w tape i _ hsh _ hok hpre _
  obtain ⟨_, _, _, fn2, hfn2, _, _, _, _, hval⟩ := hok
  obtain rfl : fn2 = fn := Option.some.inj (hfn2.symm.trans hfn)
  obtain ⟨⟨⟨ds, gs, before, hw, _⟩, hx⟩, _⟩ := hpre
  have hw2 := DataW.Whole.of_heap (w' := w.forCall tape i) (by rfl) hw
  refine (walk (w.forCall tape i) w.heap.size i.args ds gs before hval hw2 (hX _ _ (by rfl) hx) hsh).mono fun e W' ⟨v, he, hp⟩ => ?_
  subst he
  exact ChangeSpec.post_blind hp
set_option maxRecDepth 10000 in
theorem maxI_of_shape {W : World} (h : W.ShapedOpen Tryz.prog) : MaxI W := Tryz.lays146.s1_3 W h
set_option maxRecDepth 10000 in
theorem Ld.pow : (Rows.laid_internal_strconv_uint64pow10 : DataW Unit) = Lib.tabData .u64 Lib.pow10Tab := by kernel_rfl
set_option maxRecDepth 10000 in
theorem pow_of_laid {W : World} {l : List (String × DataW Unit)} {a b : String × DataW Unit} {r : List (String × DataW Unit)} (hh : (l.all fun x => x.2.handleName?.isNone) = true)
    (hl : l = a :: b :: ("internal/strconv.uint64pow10", Rows.laid_internal_strconv_uint64pow10) :: r) (h : laidMetH Tryz.prog l W) : Lib.TabIs Tryz.prog W "internal/strconv.uint64pow10" .u64 Lib.pow10Tab := by
  rw [MakeChecks.laidMetH_plain _ _ _ hh, hl, Ld.pow] at h
  exact Lib.tabIs_of_head (g := 0) (t := 169) (e := 102) (n := 20) (by kernel_rfl) (by kernel_rfl) Tryz.underlying169 Tryz.underlying102 (by kernel_rfl) (by kernel_rfl) h.tail.tail
end Go.Proofs.YtnpaekjiafaahaaGreatDoor
