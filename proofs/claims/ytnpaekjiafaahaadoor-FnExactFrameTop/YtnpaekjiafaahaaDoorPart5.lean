/- 5 of this claim's texts, one behind the other. -/
import Derived.Test.YtnpaekjiafaahaaDoorPart2
import Derived.Test.YtnpaekjiafaahaaDoorPart4
import Derived.Test.YtnpaekjiafaahaaDoorPart3
import Derived.Handed
import Derived.Lay
import Derived.MakeChecks
import Derived.Lib.LaidTab
import Derived.Stop.LaidErr
/- The walks of the specification's l09Top and FrameTop. Written by laws9.py. -/
namespace Go.Proofs.YtnpaekjiafaahaaDoor
open Go.RowKit

/-- the top of a frame -/
def topFr (L : List Fr) (id : Int) : Fr := (wayF L id).getLastD frNone
def topF (L : List Fr) (id : Int) : Int := if (framesB L && hereF L id) = true then (topFr L id).id else 0
theorem topF_right {L : List Fr} (h : framesB L = true) (id : Int) : topF L id = (topFr L id).id := by
  unfold topF
  cases hh : hereF L id with
  | true => rw [h]; rfl
  | false => rw [Bool.and_false, if_neg (by decide)]; unfold topFr; rw [wayF_none hh]; rfl
theorem parent_here {L : List Fr} (h : framesB L = true) {k : Nat} (hk : k < L.length) (hp : (atF L k).pa ≠ 0) : ∃ j, j < k ∧ whF L (atF L k).pa = (j : Int) ∧ (atF L j).id = (atF L k).pa := by
  have hi := ids_of h
  have h1 := (framesB_parts h).2 k hk
  unfold okF at h1
  simp only [Bool.and_eq_true] at h1
  have h2 := h1.2
  unfold holdF at h2
  rw [Bool.or_eq_true, beq_iff_eq, decide_eq_true_eq] at h2
  rcases h2 with h2 | h2
  · exact absurd h2 hp
  · rcases whF_cases (L.take k) (atF L k).pa with ⟨j, hj, -, e1, -⟩ | ⟨e, -⟩
    · rw [List.length_take] at hj
      rw [atF_take (by omega) (by omega)] at e1
      exact ⟨j, by omega, by rw [← e1]; exact (getF_at hi (by omega)).1, e1⟩
    · omega
theorem here_at {L : List Fr} (h : framesB L = true) {k : Nat} (hk : k < L.length) : hereF L (atF L k).id = true ∧ getF L (atF L k).id = atF L k :=
  ⟨(hereF_iff _ _).2 ⟨k, hk, rfl⟩, (getF_at (ids_of h) hk).2⟩
theorem topFr_top {L : List Fr} (h : framesB L = true) {k : Nat} (hk : k < L.length) (hp : (atF L k).pa = 0) : topFr L (atF L k).id = atF L k := by
  obtain ⟨h1, h2⟩ := here_at h hk
  have h0 : hereF L 0 = false := by
    rw [Bool.eq_false_iff]
    intro h0
    obtain ⟨j, hj, e⟩ := (hereF_iff _ _).1 h0
    have := ((ids_of h) j hj).1
    omega
  unfold topFr
  rw [wayF_here h h1, h2, hp, wayF_none h0]
  rfl
theorem topFr_in {L : List Fr} (h : framesB L = true) {k j : Nat} (hk : k < L.length) (hj : j < L.length) (e : (atF L j).id = (atF L k).pa) : topFr L (atF L k).id = topFr L (atF L j).id := by
  obtain ⟨h1, h2⟩ := here_at h hk
  obtain ⟨h3, h4⟩ := here_at h hj
  unfold topFr
  rw [wayF_here h h1, h2, ← e, wayF_here h h3]
  simp [List.getLastD]
set_option maxRecDepth 10000 in
set_option maxHeartbeats 4000000 in
theorem specTop9_any (v : Value) (L : List Fr) (B : Nat) (id : Int) (w : World) (hs : SliceF w B v L) (hn : L.length ≤ 1048576) (hL : framesB L = true) (hh : hereF L id = true) :
    Calls Tryd.prog 64 #[v, .int .i64 id] w fun e w' => (∃ k : Nat, e = .returned (.int .i64 (k : Int)) ∧ k < L.length ∧ atF L k = topFr L id) ∧ w' = w := by
  have KA : Hid (∀ i, Calls Tryd.prog 40 #[v, .int .i64 i] w fun e w' => e = .returned (.int .i64 (whF L i)) ∧ w' = w) := fun i => specAt_any v L B i w hs hn
  have HL : Hid (framesB L = true) := hL
  obtain ⟨k0, hk0, ew, eg, ei⟩ := here_wh hh
  have HI : Hid (topFr L id = topFr L (atF L k0).id) := by show _ = _; rw [ei]
  obtain ⟨⟨p, cap, rfl, hg⟩, -⟩ := hs
  obtain ⟨g, rfl, -, hgw, hc⟩ := hg (by omega)
  have HC : Hid (∀ j, j < L.length → w.cell? ⟨g, j * 9 + 1, none⟩ = some (.int .i64 (atF L j).pa)) := fun j hj => (hc j hj 1 (by omega)).1
  clear hg hc hL hgw eg ei hh
  go_enter Tryd.func64, Tryd.ntmps64
  go_wp2_with fail
  refine (KA.out id).mono ?_
  rintro e w1 ⟨rfl, e1⟩
  have HW : Hid (w1 = w) := e1
  subst e1
  rw [ew]
  go_wp2
  go_loopw [5] (fun i wr => ∃ k : Nat, k < L.length ∧ i = .int .i64 k ∧ Hid (topFr L id = topFr L (atF L k).id) ∧ Hid (wr = w1)) (fun i _ => (intOf i).toNat)
  case atStart => exact ⟨k0, hk0, rfl, HI, rfl⟩
  case round =>
    obtain ⟨k, hk, rfl, HR, HE⟩ := hrel
    have c1 : wr.cell? ⟨g, k * 9 + 1, none⟩ = some (.int .i64 (atF L k).pa) := by rw [HE.out]; exact HC.out k hk
    have k0' : (0 : Int) ≤ k := by omega
    have k1 : (k : Int) < L.length := by omega
    by_cases hp : (atF L k).pa = 0
    · have hq : ((atF L k).pa != 0) = false := by rw [hp]; rfl
      have HQ : Hid (atF L k = topFr L id) := by show _ = _; rw [HR.out, topFr_top HL.out hk hp]
      generalize (atF L k).pa = pa at *
      go_wp2
      go_ret
      exact ⟨⟨k, rfl, hk, HQ.out⟩, HE.out⟩
    · have hq : ((atF L k).pa != 0) = true := by rw [bne_iff_ne]; exact hp
      obtain ⟨j, hj, ej, eij⟩ := parent_here HL.out hk hp
      have HN : Hid (topFr L id = topFr L (atF L j).id) := by show _ = _; rw [HR.out, topFr_in HL.out hk (by omega) eij]
      have KA2 : Hid (Calls Tryd.prog 40 #[.slice (some ⟨g, 0, none⟩) L.length cap, .int .i64 (atF L k).pa] wr fun e w' => e = .returned (.int .i64 (j : Int)) ∧ w' = wr) := by
        have h := KA.out (atF L k).pa
        rw [ej] at h
        show Calls _ _ _ wr _
        rw [HE.out]; exact h
      clear ej eij HR
      generalize (atF L k).pa = pa at *
      go_wp2_with fail
      refine KA2.out.mono ?_
      rintro e w2 ⟨rfl, e2⟩
      have HE2 : Hid (w2 = w1) := e2.trans HE.out
      clear e2 c1 KA2 HE
      go_wp2
      go_roundw
      case rel => exact ⟨j, by omega, rfl, HN, HE2⟩
      case measure => simp [intOf]; omega
set_option maxRecDepth 10000 in
set_option maxHeartbeats 4000000 in
theorem specFrameTop_any (v : Value) (L : List Fr) (B : Nat) (id : Int) (w : World) (hs : SliceF w B v L) (hn : L.length ≤ 1048576) :
    Calls Tryd.prog 31 #[v, .int .i64 id] w fun e w' => e = .returned (.int .i64 (topF L id)) ∧ Below w.heap.size w w' := by
  have KA : Hid (∀ W, Below w.heap.size w W → Calls Tryd.prog 40 #[v, .int .i64 id] W fun e w' => e = .returned (.int .i64 (whF L id)) ∧ w' = W) := fun W hb => specAt_any v L B id W (hs.below hb) hn
  have KR : Hid (∀ W, Below w.heap.size w W → Calls Tryd.prog 11 #[v] W fun e w' => e = .returned (.bool (framesB L)) ∧ Below W.heap.size W w') := fun W hb => specFrames_any v L B W (hs.below hb) hn
  have KT : Hid (framesB L = true → hereF L id = true → ∀ W, Below w.heap.size w W → Calls Tryd.prog 64 #[v, .int .i64 id] W fun e w' => (∃ k : Nat, e = .returned (.int .i64 (k : Int)) ∧ k < L.length ∧ atF L k = topFr L id) ∧ w' = W) := fun h1 h2 W hb => specTop9_any v L B id W (hs.below hb) hn h1 h2
  have HE : Hid (topF L id = if (framesB L && hereF L id) = true then (topFr L id).id else 0) := rfl
  have HZ : Hid (hereF L id = decide (0 ≤ whF L id)) := rfl
  have HLong : Hid (10 < L.length → framesB L = false) := framesB_long
  have HC : Hid (∀ W, Below w.heap.size w W → ∀ k, k < L.length → ∃ g, v.ownBlock = some g ∧ W.cell? ⟨g, k * 9, none⟩ = some (.int .i64 (atF L k).id)) := fun W hb k hk => by
    obtain ⟨⟨p, cap, rfl, hg⟩, -⟩ := hs
    obtain ⟨g, rfl, -, hgw, hc⟩ := hg (by omega)
    exact ⟨g, rfl, (hb.cell (p := ⟨g, k * 9, none⟩) hgw).trans (hc k hk 0 (by omega)).1⟩
  have HV : Hid (∃ p cap, v = .slice p L.length cap ∧ (0 < L.length → ∃ g, p = some ⟨g, 0, none⟩)) := by
    obtain ⟨⟨p, c, e, hg⟩, -⟩ := hs
    exact ⟨p, c, e, fun h => by obtain ⟨g, e, -⟩ := hg h; exact ⟨g, e⟩⟩
  clear hs
  obtain ⟨p, cap, rfl, hp⟩ := HV.out
  have HP : Hid (0 < L.length → ∃ g, p = some ⟨g, 0, none⟩) := hp
  clear HV hp
  by_cases h400 : 400 < L.length
  · have HQ : Hid (topF L id = 0) := by show _ = _; rw [HE.out, HLong.out (by omega), Bool.false_and, if_neg (by decide)]
    have q4 : decide ((400 : Int) < (L.length : Int)) = true := by rw [decide_eq_true_iff]; omega
    generalize topF L id = R at *
    go_enter Tryd.func31, Tryd.ntmps31
    go_wp2
    go_ret
    exact ⟨ret_int HQ.out.symm, Below.refl _ _⟩
  have q4 : decide ((400 : Int) < (L.length : Int)) = false := by rw [decide_eq_false_iff_not]; omega
  clear HLong
  go_enter Tryd.func31, Tryd.ntmps31
  go_wp2_with fail
  refine (KR.out _ (Below.refl _ _)).mono ?_
  rintro e w1 ⟨rfl, hb1⟩
  have B1 : Hid (Below w.heap.size w w1) := hb1
  clear hb1 KR
  cases hfb : framesB L with
  | false =>
    have HQ : Hid (topF L id = 0) := by show _ = _; rw [HE.out, hfb, Bool.false_and, if_neg (by decide)]
    go_wp2
    go_ret
    exact ⟨ret_int HQ.out.symm, B1.out⟩
  | true =>
  go_wp2_with fail
  refine (KA.out _ B1.out).mono ?_
  rintro e w2 ⟨rfl, e2⟩
  subst e2
  clear KA
  cases hh : hereF L id with
  | false =>
    have q0 : decide (whF L id < 0) = true := by
      have h : hereF L id = decide (0 ≤ whF L id) := HZ.out
      rw [hh] at h
      have := of_decide_eq_false h.symm
      exact decide_eq_true (by omega)
    have HQ : Hid (topF L id = 0) := by show _ = _; rw [HE.out, hh, Bool.and_false, if_neg (by decide)]
    go_wp2
    go_ret
    exact ⟨ret_int HQ.out.symm, B1.out⟩
  | true =>
    have q0 : decide (whF L id < 0) = false := by
      have h : hereF L id = decide (0 ≤ whF L id) := HZ.out
      rw [hh] at h
      have := of_decide_eq_true h.symm
      exact decide_eq_false (by omega)
    have HQ : Hid (topF L id = (topFr L id).id) := by show _ = _; rw [HE.out, hfb, hh]; rfl
    have KT2 := KT.out hfb hh
    clear KT HE HZ hfb hh
    go_wp2_with fail
    refine (KT2 _ B1.out).mono ?_
    rintro e w3 ⟨⟨k, rfl, hk, ek⟩, e3⟩
    subst e3
    obtain ⟨g, rfl⟩ := HP.out (by omega)
    obtain ⟨g', eg, c0⟩ := HC.out _ B1.out k hk
    have eg2 : g = g' := Option.some.inj eg
    subst eg2
    have HQ2 : Hid (topF L id = (atF L k).id) := by show _ = _; rw [HQ.out, ek]
    have k0 : (0 : Int) ≤ k := by omega
    have k1 : (k : Int) < L.length := by omega
    clear HC HP KT2 HQ ek eg
    generalize (atF L k).id = x at *
    go_wp2
    go_ret
    exact ⟨ret_int (by rw [HQ2.out]), B1.out⟩
end Go.Proofs.YtnpaekjiafaahaaDoor

/- The walk of the program's FrameTop. Written by laws9.py. -/
namespace Go.Proofs.YtnpaekjiafaahaaDoor
open Go.RowKit

theorem field_fr_id (xid xpa xpo xtc : Int) (xsc xho xpt : ByteArray) (xsb xfl : Bool) (W : World) : Sem.run Tryd.prog (Instr.field 60 (.agg #[.int .i64 xid, .int .i64 xpa, .string xsc, .string xho, .int .i64 xpo, .string xpt, .bool xsb, .bool xfl, .int .i64 xtc]) 0) W = .ok (.int .i64 xid) W := by kernel_rfl
set_option maxRecDepth 10000 in
set_option maxHeartbeats 4000000 in
theorem frameTop_any (v : Value) (L : List Fr) (B : Nat) (id : Int) (w : World) (hG : MaxI w) (hs : SliceF w B v L) (hn : L.length ≤ 1048576) (hh : ∀ i, i < L.length → (atF L i).ho.size ≤ 1048576) (i1 : -9223372036854775808 ≤ id) (i2 : id ≤ 9223372036854775807) :
    Calls Tryd.prog 32 #[v, .int .i64 id] w fun e w' => e = .returned (.int .i64 (topF L id)) ∧ Below w.heap.size w w' := by
  have KR : Hid (Calls Tryd.prog 13 #[v] w fun e w' => e = .returned (.bool (framesB L)) ∧ Below w.heap.size w w') := framesRight_any v L B w hG hs hn hh
  have KT0 : framesB L = true → ∀ W, Below w.heap.size w W → Calls Tryd.prog 65 #[v, .int .i64 id] W fun e w' => e = .returned (frV (topFr L id)) ∧ Below W.heap.size W w' := fun h W hb => topOf_any v L B id W (hs.below hb) h i1 i2
  have HE : Hid (framesB L = false → topF L id = 0) := fun h => by unfold topF; rw [h, Bool.false_and, if_neg (by decide)]
  have HT : Hid (framesB L = true → topF L id = (topFr L id).id) := fun h => topF_right h id
  have hfld := field_fr_id
  clear hs hG hh
  generalize topF L id = R at *
  generalize topFr L id = y at *
  generalize framesB L = fb at *
  go_enter Tryd.func32, Tryd.ntmps32
  go_wp2_with fail
  refine KR.out.mono ?_
  rintro e w1 ⟨rfl, hb1⟩
  have B1 : Hid (Below w.heap.size w w1) := hb1
  clear hb1 KR
  cases fb with
  | false =>
    have HQ : Hid (R = 0) := HE.out rfl
    go_wp2
    go_ret
    exact ⟨ret_int HQ.out.symm, B1.out⟩
  | true =>
    have HQ : Hid (R = y.id) := HT.out rfl
    have KT1 := KT0 rfl _ B1.out
    clear HE HT KT0
    obtain ⟨yid, ypa, ysc, yho, ypo, ypt, ysb, yfl, ytc⟩ := y
    unfold frV at KT1
    dsimp only at *
    have KT : Hid (Calls Tryd.prog 65 #[v, .int .i64 id] w1 fun e w' => e = .returned (.agg #[.int .i64 yid, .int .i64 ypa, .string ysc, .string yho, .int .i64 ypo, .string ypt, .bool ysb, .bool yfl, .int .i64 ytc]) ∧ Below w1.heap.size w1 w') := KT1
    clear KT1
    go_wp2_with fail
    refine KT.out.mono ?_
    rintro e w2 ⟨rfl, hb2⟩
    have B2 : Hid (Below w.heap.size w w2) := B1.out.trans (hb2.mono B1.out.size)
    clear hb2 KT
    go_wp2
    go_ret
    exact ⟨ret_int HQ.out.symm, B2.out⟩
end Go.Proofs.YtnpaekjiafaahaaDoor

/- The law FnExactFramesRight, walked. -/
namespace Go.Proofs.YtnpaekjiafaahaaDoor
open Go.RowKit

/-- the texts of frames are no longer than what is asked -/
def szF9 (L : List Fr) : Prop := ∀ i, i < L.length → (atF L i).sc.size + (atF L i).ho.size + (atF L i).pt.size ≤ 1048576
set_option maxRecDepth 10000 in
set_option maxHeartbeats 4000000 in
theorem lawFramesRight_any (a : Option Addr) (cap : Nat) (L : List Fr) (w : World) (hG : MaxI w) (hr : FrRow w a L) (hn : L.length ≤ maxLen) :
    Calls Tryd.prog 3 #[.slice a L.length cap] w fun e w' => e = .returned (.bool true) ∧ Below w.heap.size w w' := by
  have HR : Hid (FrRow w a L) := hr
  have HG : Hid (MaxI w) := hG
  clear hr hG
  go_enter Tryd.func3, Tryd.ntmps3
  go_wp2_with fail
  refine (szFrameS_any a cap L 1048576 _ HR.out hn (by decide) (by decide)).mono ?_
  rintro e w0 ⟨⟨r, rfl, hr⟩, hb0⟩
  have B0 : Hid (Below w.heap.size w w0) := hb0
  clear hb0
  rcases hr with hr | ⟨r0, r1, hl, hf⟩
  · go_wp2
    go_ret
    exact ⟨rfl, B0.out⟩
  have q : decide (r < 0) = false := by rw [decide_eq_false_iff_not]; omega
  have HF : Hid (szF9 L) := hf
  clear hf r0 r1
  go_wp2_with fail
  refine (toFrameS_any a cap L _ (HR.out.below B0.out) hl).mono ?_
  rintro e w1 ⟨v1, rfl, s1, hb1⟩
  have B1 : Hid (Below w.heap.size w w1) := B0.out.trans (hb1.mono B0.out.size)
  have KS : Hid (Calls Tryd.prog 11 #[v1] w1 fun e w' => e = .returned (.bool (framesB L)) ∧ Below w1.heap.size w1 w') := specFrames_any v1 L _ w1 s1 hl
  have KI : Hid (∀ (v : Value) (B : Nat) (W : World), Below w.heap.size w W → SliceF W B v L → Calls Tryd.prog 13 #[v] W fun e w' => e = .returned (.bool (framesB L)) ∧ Below W.heap.size W w') := fun v B W a b => framesRight_any v L B W (HG.out.on a) b hl (fun i hi => by have := HF.out i hi; omega)
  clear s1 hb1 HG HF
  generalize framesB L = d at *
  go_wp2_with fail
  refine KS.out.mono ?_
  rintro e w2 ⟨rfl, hb2⟩
  have B2 : Hid (Below w.heap.size w w2) := B1.out.trans (hb2.mono B1.out.size)
  clear hb2 KS
  go_wp2_with fail
  refine (toFrameS_any a cap L _ (HR.out.below B2.out) hl).mono ?_
  rintro e w4 ⟨v4, rfl, s4, hb4⟩
  have B4 : Hid (Below w.heap.size w w4) := B2.out.trans (hb4.mono B2.out.size)
  have S4 : Hid (SliceF w4 w2.heap.size v4 L) := s4
  clear hb4 s4
  go_wp2_with fail
  refine (KI.out v4 _ w4 B4.out S4.out).mono ?_
  rintro e w5 ⟨rfl, hb5⟩
  have B5 : Hid (Below w.heap.size w w5) := B4.out.trans (hb5.mono B4.out.size)
  have S5 : Hid (SliceF w5 w2.heap.size v4 L) := S4.out.below hb5
  clear hb5
  cases d
  all_goals
    go_wp2_with fail
    refine (toFrameS_any a cap L _ (HR.out.below B5.out) hl).mono ?_
    rintro e w7 ⟨v7, rfl, s7, hb7⟩
    have S7 := S5.out.below hb7
    have B7 : Hid (Below w.heap.size w w7) := B5.out.trans (hb7.mono B5.out.size)
    clear hb7
    go_wp2_with fail
    refine (eqFrameS_any v4 v7 L _ _ _ S7 s7 hl).mono ?_
    rintro e w8 ⟨rfl, hb8⟩
    go_wp2
    go_ret
    exact ⟨rfl, B7.out.trans (hb8.mono B7.out.size)⟩
end Go.Proofs.YtnpaekjiafaahaaDoor

/- The law FnExactFrameTop, walked. Written by laws9.py. -/
namespace Go.Proofs.YtnpaekjiafaahaaDoor
open Go.RowKit

set_option maxRecDepth 10000 in
set_option maxHeartbeats 4000000 in
theorem lawFrameTop_any (a : Option Addr) (cap : Nat) (L : List Fr) (id : Int) (w : World) (hG : MaxI w) (hr : FrRow w a L) (hn : L.length ≤ maxLen) (hid : (Lit.int .i64 id).wf = true) :
    Calls Tryd.prog 7 #[.slice a L.length cap, .int .i64 id] w fun e w' => e = .returned (.bool true) ∧ Below w.heap.size w w' := by
  have HR : Hid (FrRow w a L) := hr
  have HG : Hid (MaxI w) := hG
  have HI : Hid (-9223372036854775808 ≤ id ∧ id ≤ 9223372036854775807) := fr_wf hid
  clear hr hG hid
  go_enter Tryd.func7, Tryd.ntmps7
  go_wp2_with fail
  refine (szFrameS_any a cap L 1048576 _ HR.out hn (by decide) (by decide)).mono ?_
  rintro e w0 ⟨⟨r, rfl, hr⟩, hb0⟩
  have B0 : Hid (Below w.heap.size w w0) := hb0
  clear hb0
  rcases hr with hr | ⟨r0, r1, hl, hf⟩
  · go_wp2
    go_ret
    exact ⟨rfl, B0.out⟩
  have q : decide (r < 0) = false := by rw [decide_eq_false_iff_not]; omega
  have HF : Hid (szF9 L) := hf
  clear hf r0 r1
  go_wp2_with fail
  refine (toFrameS_any a cap L _ (HR.out.below B0.out) hl).mono ?_
  rintro e w1 ⟨v1, rfl, s1, hb1⟩
  have B1 : Hid (Below w.heap.size w w1) := B0.out.trans (hb1.mono B0.out.size)
  have KS : Hid (Calls Tryd.prog 31 #[v1, .int .i64 id] w1 fun e w' => e = .returned (.int .i64 (topF L id)) ∧ Below w1.heap.size w1 w') := specFrameTop_any v1 L _ id w1 s1 hl
  have KI : Hid (∀ (v : Value) (B : Nat) (W : World), Below w.heap.size w W → SliceF W B v L → Calls Tryd.prog 32 #[v, .int .i64 id] W fun e w' => e = .returned (.int .i64 (topF L id)) ∧ Below W.heap.size W w') := fun v B W a b => frameTop_any v L B id W (HG.out.on a) b hl (fun i hi => by have := HF.out i hi; omega) HI.out.1 HI.out.2
  clear s1 hb1 HG HF
  generalize topF L id = d at *
  go_wp2_with fail
  refine KS.out.mono ?_
  rintro e w2 ⟨rfl, hb2⟩
  have B2 : Hid (Below w.heap.size w w2) := B1.out.trans (hb2.mono B1.out.size)
  clear hb2 KS
  go_wp2_with fail
  refine (toFrameS_any a cap L _ (HR.out.below B2.out) hl).mono ?_
  rintro e w4 ⟨v4, rfl, s4, hb4⟩
  have B4 : Hid (Below w.heap.size w w4) := B2.out.trans (hb4.mono B2.out.size)
  have S4 : Hid (SliceF w4 w2.heap.size v4 L) := s4
  clear hb4 s4
  go_wp2_with fail
  refine (KI.out v4 _ w4 B4.out S4.out).mono ?_
  rintro e w5 ⟨rfl, hb5⟩
  have B5 : Hid (Below w.heap.size w w5) := B4.out.trans (hb5.mono B4.out.size)
  have S5 : Hid (SliceF w5 w2.heap.size v4 L) := S4.out.below hb5
  clear hb5
  go_wp2_with fail
  refine (toFrameS_any a cap L _ (HR.out.below B5.out) hl).mono ?_
  rintro e w7 ⟨v7, rfl, s7, hb7⟩
  have S7 := S5.out.below hb7
  have B7 : Hid (Below w.heap.size w w7) := B5.out.trans (hb7.mono B5.out.size)
  clear hb7
  go_wp2_with fail
  refine (eqFrameS_any v4 v7 L _ _ _ S7 s7 hl).mono ?_
  rintro e w8 ⟨rfl, hb8⟩
  go_wp2
  go_ret
  exact ⟨rfl, B7.out.trans (hb8.mono B7.out.size)⟩
end Go.Proofs.YtnpaekjiafaahaaDoor

/- The lifting of a law's walk to a row that lists package-level variables, the world's shape kept; what the shape and the list give a walk. -/
namespace Go.Proofs.YtnpaekjiafaahaaDoor
open Go.RowKit

theorem Ld.own : ownKnob Tryd.prog.godebug = none := by kernel_rfl
theorem Ld.laidOut : laidOutB Tryd.prog = true := by kernel_rfl
set_option maxRecDepth 10000 in
theorem lift_laid {H : Type} {enc : TypeId × Value → H} {os : Os} {f : FuncId} {fn : Func} {s : ChangeSpec} {X : World → Prop} (hX : ∀ (w w' : World), w.heap = w'.heap → X w → X w')
    (started : os.Started) (noInit : Tryd.prog.inits.idxOf? f = none) (hfn : Tryd.prog.funcs[f]? = some fn)
    (start : ∃ (w : World) (tape : Tape) (i : Input), w.os = os ∧ (w.forCall tape i).Shaped Tryd.prog ∧ i.vars = [] ∧ Input.okWide Tryd.prog (w.forCall tape i) .any w.heap.size f i ∧
      ((s.pre enc Tryd.prog fn [] false (w.forCall tape i).memory i.args ∧ X (w.forCall tape i).memory) ∧ sizedMet enc Tryd.prog fn (OpenSpec.ofChange s) false (w.forCall tape i).memory i.args) ∧ Assume.holds {} Tryd.prog (lone (Frame.enter Tryd.prog f i.args .normal) [] (w.forCall tape i)))
    (walk : ∀ (W : World) (base : Nat) (args : Array Value) (ds gs : List (DataW H)) (before : List MemPlace),
      (∀ (j : Nat) t v, fn.params[j]? = some t → args[j]? = some v → Value.okWide Tryd.prog W .any base t v) →
      DataW.Whole enc Tryd.prog fn.params.toList s.vars false W args.toList ds gs before → X W → W.ShapedOpen Tryd.prog →
      Calls Tryd.prog f args W fun e W' => ∃ v, e = .returned v ∧ s.post enc Tryd.prog fn false true false false W args v W') :
    ReturnsInHanded {} Tryd.checked os f .any (fun w args => (s.pre enc Tryd.prog fn [] false w args ∧ X w) ∧ sizedMet enc Tryd.prog fn (OpenSpec.ofChange s) false w args) (s.post enc Tryd.prog fn false true false false) := by
  refine returnsInHanded_of_calls (C := Tryd.checked) Ld.own started noInit start ?_
  intro w tape i _ hsh _ hok hpre _
  obtain ⟨_, _, _, fn2, hfn2, _, _, _, _, hval⟩ := hok
  obtain rfl : fn2 = fn := Option.some.inj (hfn2.symm.trans hfn)
  obtain ⟨⟨⟨ds, gs, before, hw, _⟩, hx⟩, _⟩ := hpre
  have hw2 := DataW.Whole.of_heap (w' := w.forCall tape i) (by rfl) hw
  refine (walk (w.forCall tape i) w.heap.size i.args ds gs before hval hw2 (hX _ _ (by rfl) hx) hsh).mono fun e W' ⟨v, he, hp⟩ => ?_
  subst he
  exact ChangeSpec.post_blind hp
set_option maxRecDepth 10000 in
theorem maxI_of_shape {W : World} (h : W.ShapedOpen Tryd.prog) : MaxI W := Tryd.lays146.s1_3 W h
end Go.Proofs.YtnpaekjiafaahaaDoor
