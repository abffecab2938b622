/- 11 of this claim's texts, one behind the other. -/
import Derived.Test.YtnpaekjiafaahaaDoorPart1
import Derived.Laws.ResultCell
import Derived.Test.YtnpaekjiafaahaaDoorPart3
import Derived.Test.YtnpaekjiafaahaaDoorPart2
import Derived.Handed
import Derived.Lay
import Derived.MakeChecks
import Derived.Lib.LaidTab
import Derived.Stop.LaidErr
/- A block that holds values, kept while others are written. -/
namespace Go.Proofs.YtnpaekjiafaahaaDoor
open Go.RowKit

/-- the block's cells begin with these values, and may be written -/
def BoxV (w : World) (b : Nat) (vs : List Value) : Prop := b < w.heap.size ∧ ∀ (i : Nat) (v : Value), vs[i]? = some v → w.cell? ⟨b, i, none⟩ = some v ∧ w.frozen? ⟨b, i, none⟩ = false
theorem BoxV.of_block {w w' : World} {b : Nat} {vs : List Value} (h : BoxV w b vs) (hb : w'.heap[b]? = w.heap[b]?) (hs : w.heap.size ≤ w'.heap.size) : BoxV w' b vs :=
  ⟨Nat.lt_of_lt_of_le h.1 hs, fun i v e => ⟨by rw [World.cell?_of_block (a := ⟨b, i, none⟩) hb]; exact (h.2 i v e).1, by rw [World.frozen?_of_block (a := ⟨b, i, none⟩) hb]; exact (h.2 i v e).2⟩⟩
theorem BoxV.below {w w' : World} {b : Nat} {vs : List Value} (h : BoxV w b vs) (hb : Below w.heap.size w w') : BoxV w' b vs := h.of_block (hb.block b h.1) hb.size
theorem BoxV.grown {w w' : World} {b G : Nat} {vs : List Value} (h : BoxV w b vs) (hg : w.grownBy w' (some G)) (hne : b ≠ G) : BoxV w' b vs := h.of_block (hg.block b h.1 (fun e => hne (Option.some.inj e))) hg.size
theorem BoxV.at {w : World} {b : Nat} {vs : List Value} (h : BoxV w b vs) {i : Nat} {v : Value} (e : vs[i]? = some v) : w.cell? ⟨b, i, none⟩ = some v := (h.2 i v e).1
theorem BoxV.free {w : World} {b : Nat} {vs : List Value} (h : BoxV w b vs) {i : Nat} {v : Value} (e : vs[i]? = some v) : w.frozen? ⟨b, i, none⟩ = false := (h.2 i v e).2
theorem boxV_new (w : World) (vs : List Value) (t : TypeId) : BoxV (w.alloc (.cells vs.toArray t)) w.heap.size vs :=
  ⟨by simp, fun i v e => ⟨by rw [World.cell?_alloc_new]; simpa using e, by simp⟩⟩
theorem BoxV.alloc {w : World} {b : Nat} {vs : List Value} (h : BoxV w b vs) (o : Obj) : BoxV (w.alloc o) b vs := h.below ((Below.refl _ _).alloc (Nat.le_refl _) _)
theorem BoxV.drew {w : World} {b : Nat} {vs : List Value} (h : BoxV w b vs) : BoxV w.drew b vs := h.below (Below.drew (Below.refl _ _))
end Go.Proofs.YtnpaekjiafaahaaDoor

/- The walks of the specification's OriginRight and OriginOf. -/
namespace Go.Proofs.YtnpaekjiafaahaaDoor
open Go.RowKit

/-- an Origin, as a value -/
def originV (sc ho : ByteArray) (po no : Int) : Value := .agg #[.string sc, .string ho, .int .i64 po, .int .i64 no]
def originB (sc ho : ByteArray) (po no : Int) : Bool := if no = 0 then placeB sc ho po else (decide (1 ≤ no) && decide (no ≤ 1000000)) && sc.toList.isEmpty && ho.toList.isEmpty && (po == 0)
def originT (sc ho : ByteArray) (po no : Int) : ByteArray := if originB sc ho po no = true then (if no = 0 then placeT sc ho po else ⟨#[110, 117, 108, 108, 35]⟩ ++ decB no) else ⟨#[]⟩

set_option maxRecDepth 10000 in
set_option maxHeartbeats 400000 in
theorem specOriginOf_any (sc ho pa : ByteArray) (po : Int) (w : World) :
    Calls Tryd.prog 83 #[urlV sc ho pa po] w fun e w' => e = .returned (if urlB sc ho pa po = true then originV sc ho po 0 else originV ⟨#[]⟩ ⟨#[]⟩ 0 0) ∧ Below w.heap.size w w' := by
  have H1 := fun W => specUrlRight_any sc ho pa po W
  unfold urlV at H1 ⊢
  cases hu : urlB sc ho pa po with
  | true =>
    rw [hu] at H1
    rw [if_pos rfl]
    have G1 : Hid (∀ W, Calls Tryd.prog 41 #[.agg #[.string sc, .string ho, .int .i64 po, .string pa]] W fun e w' => e = .returned (.bool true) ∧ Below W.heap.size W w') := H1
    clear H1 hu
    go_enter Tryd.func83, Tryd.ntmps83
    go_wp2_with fail
    refine (G1.out _).mono ?_
    rintro e w1 ⟨rfl, hb⟩
    obtain ⟨hc, hf⟩ := bcell hb
    go_wp2
    refine bodyPost_ret (v := originV sc ho po 0) (by simp [originV, results, Tryd.results83, go_sem, hc]) rfl ⟨rfl, ?_⟩
    exact Below.setCell (Below.setCell (Below.setCell (Below.setCell ((((Below.refl _ _).alloc (Nat.le_refl _) _).alloc (by simp) _).trans (hb.mono (by simp; omega))) (by simp) _) (by simp) _) (by simp) _) (by simp) _
  | false =>
    rw [hu] at H1
    rw [if_neg (by simp)]
    have G1 : Hid (∀ W, Calls Tryd.prog 41 #[.agg #[.string sc, .string ho, .int .i64 po, .string pa]] W fun e w' => e = .returned (.bool false) ∧ Below W.heap.size W w') := H1
    clear H1 hu
    go_enter Tryd.func83, Tryd.ntmps83
    go_wp2_with fail
    refine (G1.out _).mono ?_
    rintro e w1 ⟨rfl, hb⟩
    obtain ⟨hc, hf⟩ := bcell hb
    go_wp2
    refine bodyPost_ret (v := originV ⟨#[]⟩ ⟨#[]⟩ 0 0) (by simp [originV, results, Tryd.results83, go_sem, hc]) rfl ⟨rfl, ?_⟩
    exact Below.setCell (Below.setCell (Below.setCell (Below.setCell ((((Below.refl _ _).alloc (Nat.le_refl _) _).alloc (by simp) _).trans (hb.mono (by simp; omega))) (by simp) _) (by simp) _) (by simp) _) (by simp) _
end Go.Proofs.YtnpaekjiafaahaaDoor

/- The origin of a frame, as a plain function. -/
namespace Go.Proofs.YtnpaekjiafaahaaDoor
open Go.RowKit

/-- an origin's fields -/
structure Og where
  sc : ByteArray
  ho : ByteArray
  po : Int
  no : Int
def ogV (o : Og) : Value := .agg #[.string o.sc, .string o.ho, .int .i64 o.po, .int .i64 o.no]
def ogNone : Og := ⟨⟨#[]⟩, ⟨#[]⟩, 0, 0⟩
/-- the origin of a url's fields -/
def ogUrl (sc ho pt : ByteArray) (po : Int) : Og := if urlB sc ho pt po = true then ⟨sc, ho, po, 0⟩ else ogNone
theorem ogUrl_V (sc ho pt : ByteArray) (po : Int) : (if urlB sc ho pt po = true then originV sc ho po 0 else originV ⟨#[]⟩ ⟨#[]⟩ 0 0) = ogV (ogUrl sc ho pt po) := by
  unfold ogUrl
  split <;> rfl
def ogF (f : Fr) : Og := if f.sb = true then ⟨⟨#[]⟩, ⟨#[]⟩, 0, f.id⟩ else ogUrl f.sc f.ho f.pt f.po
/-- the frame that the number leads to -/
def getF (L : List Fr) (id : Int) : Fr := atF L (whF L id).toNat
def hereF (L : List Fr) (id : Int) : Bool := decide (0 ≤ whF L id)
def orgF (L : List Fr) (id : Int) : Og := if (hereF L id && framesB L) = true then ogF (getF L id) else ogNone
theorem hereF_at {L : List Fr} {id : Int} (h : hereF L id = true) : (whF L id).toNat < L.length ∧ (whF L id) = ((whF L id).toNat : Int) := by
  unfold hereF at h
  rw [decide_eq_true_eq] at h
  rcases whF_cases L id with ⟨k, hk, e, -⟩ | ⟨e, -⟩
  · rw [e]; simp; exact hk
  · omega
end Go.Proofs.YtnpaekjiafaahaaDoor

/- The walks of the specification's l09Origin and FrameOrigin. Written by specorg9.py. -/
namespace Go.Proofs.YtnpaekjiafaahaaDoor
open Go.RowKit

set_option maxRecDepth 10000 in
set_option maxHeartbeats 4000000 in
theorem specOrg9_any (y : Fr) (w : World) :
    Calls Tryd.prog 66 #[frV y] w fun e w' => e = .returned (ogV (ogF y)) ∧ Below w.heap.size w w' := by
  have KO0 : ∀ W, Calls Tryd.prog 83 #[.agg #[.string y.sc, .string y.ho, .int .i64 y.po, .string y.pt]] W fun e w' => e = .returned (ogV (ogUrl y.sc y.ho y.pt y.po)) ∧ Below W.heap.size W w' := fun W => by
    have := specOriginOf_any y.sc y.ho y.pt y.po W
    rw [ogUrl_V] at this
    exact this
  have HO1 : Hid (y.sb = true → ogF y = ⟨⟨#[]⟩, ⟨#[]⟩, 0, y.id⟩) := fun h => by unfold ogF; rw [if_pos h]
  have HO2 : Hid (y.sb = false → ogF y = ogUrl y.sc y.ho y.pt y.po) := fun h => by unfold ogF; rw [if_neg (by rw [h]; decide)]
  generalize ogF y = q at *
  generalize hou : ogUrl y.sc y.ho y.pt y.po = ou at *
  clear hou
  obtain ⟨yid, ypa, ysc, yho, ypo, ypt, ysb, yfl, ytc⟩ := y
  obtain ⟨o1, o2, o3, o4⟩ := ou
  unfold frV ogV at *
  dsimp only at *
  have KO : Hid (∀ W, Calls Tryd.prog 83 #[.agg #[.string ysc, .string yho, .int .i64 ypo, .string ypt]] W fun e w' => e = .returned (.agg #[.string o1, .string o2, .int .i64 o3, .int .i64 o4]) ∧ Below W.heap.size W w') := KO0
  clear KO0
  cases ysb with
  | true =>
    have HR : Hid (q = ⟨⟨#[]⟩, ⟨#[]⟩, 0, yid⟩) := HO1.out rfl
    clear HO1 HO2 KO
    go_enter Tryd.func66, Tryd.ntmps66
    go_wp2
    exact bodyPost_ret (v := .agg #[.string ⟨#[]⟩, .string ⟨#[]⟩, .int .i64 0, .int .i64 yid]) (by simp [results, Tryd.results66, go_sem]) rfl ⟨by rw [HR.out], ((Below.refl _ _).alloc (Nat.le_refl _) _).alloc (by simp) _⟩
  | false =>
    have HR : Hid (q = ⟨o1, o2, o3, o4⟩) := HO2.out rfl
    clear HO1 HO2
    have HX0 : Hid (BoxV ((w.alloc (.cells #[.int .i64 yid, .int .i64 ypa, .string ysc, .string yho, .int .i64 ypo, .string ypt, .bool false, .bool yfl, .int .i64 ytc] 60)).alloc (.cells #[.string ⟨#[]⟩, .string ⟨#[]⟩, .int .i64 0, .int .i64 0] 51)) (w.heap.size + 1) [.string ⟨#[]⟩, .string ⟨#[]⟩, .int .i64 0, .int .i64 0]) := by
      have h := boxV_new (w.alloc (.cells #[.int .i64 yid, .int .i64 ypa, .string ysc, .string yho, .int .i64 ypo, .string ypt, .bool false, .bool yfl, .int .i64 ytc] 60)) [.string ⟨#[]⟩, .string ⟨#[]⟩, .int .i64 0, .int .i64 0] 51
      rw [World.size_alloc] at h
      exact h
    go_enter Tryd.func66, Tryd.ntmps66
    go_wp2_with fail
    refine (KO.out _).mono ?_
    rintro e w1 ⟨rfl, hb1⟩
    have HX1 : Hid (BoxV w1 (w.heap.size + 1) [.string ⟨#[]⟩, .string ⟨#[]⟩, .int .i64 0, .int .i64 0]) := HX0.out.below hb1
    have B1 : Hid (Below w.heap.size w w1) := (((Below.refl _ _).alloc (Nat.le_refl _) _).alloc (by simp) _).trans (hb1.mono (by simp; omega))
    clear hb1 HX0 KO
    have x0 : w1.cell? ⟨w.heap.size + 1, 0, none⟩ = some (.string ⟨#[]⟩) := HX1.out.at (i := 0) rfl
    have xf0 : w1.frozen? ⟨w.heap.size + 1, 0, none⟩ = false := HX1.out.free (i := 0) rfl
    have x1 : w1.cell? ⟨w.heap.size + 1, 1, none⟩ = some (.string ⟨#[]⟩) := HX1.out.at (i := 1) rfl
    have xf1 : w1.frozen? ⟨w.heap.size + 1, 1, none⟩ = false := HX1.out.free (i := 1) rfl
    have x2 : w1.cell? ⟨w.heap.size + 1, 2, none⟩ = some (.int .i64 0) := HX1.out.at (i := 2) rfl
    have xf2 : w1.frozen? ⟨w.heap.size + 1, 2, none⟩ = false := HX1.out.free (i := 2) rfl
    have x3 : w1.cell? ⟨w.heap.size + 1, 3, none⟩ = some (.int .i64 0) := HX1.out.at (i := 3) rfl
    have xf3 : w1.frozen? ⟨w.heap.size + 1, 3, none⟩ = false := HX1.out.free (i := 3) rfl
    clear HX1
    go_wp2
    exact bodyPost_ret (v := .agg #[.string o1, .string o2, .int .i64 o3, .int .i64 o4]) (by simp [results, Tryd.results66, go_sem, x0, x1, x2, x3]) rfl ⟨by rw [HR.out], (Below.setCell (Below.setCell (Below.setCell (Below.setCell B1.out (Nat.le_succ _) _) (Nat.le_succ _) _) (Nat.le_succ _) _) (Nat.le_succ _) _)⟩
set_option maxRecDepth 10000 in
set_option maxHeartbeats 4000000 in
theorem specFrameOrigin_any (v : Value) (L : List Fr) (B : Nat) (id : Int) (w : World) (hs : SliceF w B v L) (hn : L.length ≤ 1048576) :
    Calls Tryd.prog 33 #[v, .int .i64 id] w fun e w' => e = .returned (ogV (orgF L id)) ∧ Below w.heap.size w w' := by
  have KA : Hid (∀ W, Below w.heap.size w W → Calls Tryd.prog 40 #[v, .int .i64 id] W fun e w' => e = .returned (.int .i64 (whF L id)) ∧ w' = W) := fun W hb => specAt_any v L B id W (hs.below hb) hn
  have KR : Hid (∀ W, Below w.heap.size w W → Calls Tryd.prog 11 #[v] W fun e w' => e = .returned (.bool (framesB L)) ∧ Below W.heap.size W w') := fun W hb => specFrames_any v L B W (hs.below hb) hn
  have KO0 : ∀ W, Calls Tryd.prog 66 #[frV (getF L id)] W fun e w' => e = .returned (ogV (ogF (getF L id))) ∧ Below W.heap.size W w' := fun W => specOrg9_any _ W
  have HE : Hid (orgF L id = if (hereF L id && framesB L) = true then ogF (getF L id) else ogNone) := rfl
  have HH : Hid (hereF L id = true → (whF L id).toNat < L.length ∧ (whF L id) = ((whF L id).toNat : Int)) := fun h => hereF_at h
  have HZ : Hid (hereF L id = decide (0 ≤ whF L id)) := rfl
  have HGe : Hid (getF L id = atF L (whF L id).toNat) := rfl
  have HLong : Hid (10 < L.length → framesB L = false) := framesB_long
  have HS : Hid (SliceF w B v L) := hs
  have HX0 : Hid (BoxV (w.alloc (.cells #[.string ⟨#[]⟩, .string ⟨#[]⟩, .int .i64 0, .int .i64 0] 51)) w.heap.size [.string ⟨#[]⟩, .string ⟨#[]⟩, .int .i64 0, .int .i64 0]) := boxV_new w [.string ⟨#[]⟩, .string ⟨#[]⟩, .int .i64 0, .int .i64 0] 51
  have HB0 : Hid (Below w.heap.size w (w.alloc (.cells #[.string ⟨#[]⟩, .string ⟨#[]⟩, .int .i64 0, .int .i64 0] 51))) := (Below.refl _ _).alloc (Nat.le_refl _) _
  have HV : Hid (∃ p cap, v = .slice p L.length cap) := by obtain ⟨-, p, c, e, -⟩ := hs; exact ⟨p, c, e⟩
  clear hs
  obtain ⟨p, cap, rfl⟩ := HV.out
  clear HV
  generalize orgF L id = R at *
  generalize framesB L = fb at *
  generalize getF L id = y at *
  generalize hereF L id = hf at *
  generalize whF L id = z at *
  by_cases h400 : 400 < L.length
  · have HQ : Hid (R = ogNone) := by show R = _; rw [HE.out, HLong.out (by omega), Bool.and_false, if_neg (by decide)]
    have q4 : decide ((400 : Int) < (L.length : Int)) = true := by rw [decide_eq_true_iff]; omega
    go_enter Tryd.func33, Tryd.ntmps33
    go_wp2_with fail
    refine (KA.out _ HB0.out).mono ?_
    rintro e w1 ⟨rfl, e1⟩
    subst e1
    go_wp2
    exact bodyPost_ret (v := .agg #[.string ⟨#[]⟩, .string ⟨#[]⟩, .int .i64 0, .int .i64 0]) (by simp [results, Tryd.results33, go_sem]) rfl ⟨by rw [HQ.out]; rfl, HB0.out⟩
  have q4 : decide ((400 : Int) < (L.length : Int)) = false := by rw [decide_eq_false_iff_not]; omega
  cases hf with
  | false =>
    have HQ : Hid (R = ogNone) := by show R = _; rw [HE.out, Bool.false_and, if_neg (by decide)]
    have q0 : decide (z < 0) = true := by
      have h : false = decide (0 ≤ z) := HZ.out
      have := of_decide_eq_false h.symm
      exact decide_eq_true (by omega)
    go_enter Tryd.func33, Tryd.ntmps33
    go_wp2_with fail
    refine (KA.out _ HB0.out).mono ?_
    rintro e w1 ⟨rfl, e1⟩
    subst e1
    go_wp2
    exact bodyPost_ret (v := .agg #[.string ⟨#[]⟩, .string ⟨#[]⟩, .int .i64 0, .int .i64 0]) (by simp [results, Tryd.results33, go_sem]) rfl ⟨by rw [HQ.out]; rfl, HB0.out⟩
  | true =>
  have q0 : decide (z < 0) = false := by
    have h : true = decide (0 ≤ z) := HZ.out
    have := of_decide_eq_true h.symm
    exact decide_eq_false (by omega)
  obtain ⟨k, hk, hz2⟩ : ∃ k : Nat, k = z.toNat ∧ z = (k : Int) := ⟨z.toNat, rfl, (HH.out rfl).2⟩
  have k1 : k < L.length := by rw [hk]; exact (HH.out rfl).1
  have HGk : Hid (y = atF L k) := by show y = _; rw [hk]; exact HGe.out
  clear HZ HH HGe hk HLong
  subst hz2
  go_enter Tryd.func33, Tryd.ntmps33
  go_wp2_with fail
  refine (KA.out _ HB0.out).mono ?_
  rintro e w1 ⟨rfl, e1⟩
  subst e1
  go_wp2_with fail
  refine (KR.out _ HB0.out).mono ?_
  rintro e w2 ⟨rfl, hb2⟩
  have HX2 : Hid (BoxV w2 w.heap.size [.string ⟨#[]⟩, .string ⟨#[]⟩, .int .i64 0, .int .i64 0]) := HX0.out.below hb2
  have B2 : Hid (Below w.heap.size w w2) := HB0.out.trans (hb2.mono HB0.out.size)
  clear hb2 HX0 HB0 KA KR
  generalize hbb : w.heap.size = b at *
  cases fb with
  | false =>
    have HQ : Hid (R = ogNone) := by show R = _; rw [HE.out, Bool.and_false, if_neg (by decide)]
    have x0 : w2.cell? ⟨b, 0, none⟩ = some (.string ⟨#[]⟩) := HX2.out.at (i := 0) rfl
    have xf0 : w2.frozen? ⟨b, 0, none⟩ = false := HX2.out.free (i := 0) rfl
    have x1 : w2.cell? ⟨b, 1, none⟩ = some (.string ⟨#[]⟩) := HX2.out.at (i := 1) rfl
    have xf1 : w2.frozen? ⟨b, 1, none⟩ = false := HX2.out.free (i := 1) rfl
    have x2 : w2.cell? ⟨b, 2, none⟩ = some (.int .i64 0) := HX2.out.at (i := 2) rfl
    have xf2 : w2.frozen? ⟨b, 2, none⟩ = false := HX2.out.free (i := 2) rfl
    have x3 : w2.cell? ⟨b, 3, none⟩ = some (.int .i64 0) := HX2.out.at (i := 3) rfl
    have xf3 : w2.frozen? ⟨b, 3, none⟩ = false := HX2.out.free (i := 3) rfl
    clear HX2
    go_wp2
    exact bodyPost_ret (v := .agg #[.string ⟨#[]⟩, .string ⟨#[]⟩, .int .i64 0, .int .i64 0]) (by simp [results, Tryd.results33, go_sem, x0, x1, x2, x3]) rfl ⟨by rw [HQ.out]; rfl, by first | exact (Below.setCell (Below.setCell (Below.setCell (Below.setCell B2.out (Nat.le_refl _) _) (Nat.le_refl _) _) (Nat.le_refl _) _) (Nat.le_refl _) _) | (rw [hbb]; exact (Below.setCell (Below.setCell (Below.setCell (Below.setCell B2.out (Nat.le_refl _) _) (Nat.le_refl _) _) (Nat.le_refl _) _) (Nat.le_refl _) _))⟩
  | true =>
    have HQ : Hid (R = ogF y) := by show R = _; rw [HE.out]; rfl
    clear HE
    obtain ⟨⟨p, cap, e3, hg⟩, -⟩ := HS.out
    injection e3 with e3 _ e4
    subst e3 e4
    obtain ⟨g, rfl, -, hgw, hc⟩ := hg (by omega)
    clear hg HS
    have e1 : y = atF L k := HGk.out
    clear HGk
    have k0 : (0 : Int) ≤ k := by omega
    have k2 : (k : Int) < L.length := by omega
    have hbw : ∀ o, w2.cell? ⟨g, o, none⟩ = w.cell? ⟨g, o, none⟩ := fun o => B2.out.cell (p := ⟨g, o, none⟩) (by rw [← hbb]; exact hgw)
    have c0 : w2.cell? ⟨g, k * 9, none⟩ = some (.int .i64 (y).id) := by rw [hbw, e1]; exact (hc k k1 0 (by omega)).1
    have c1 : w2.cell? ⟨g, k * 9 + 1, none⟩ = some (.int .i64 (y).pa) := by rw [hbw, e1]; exact (hc k k1 1 (by omega)).1
    have c2 : w2.cell? ⟨g, k * 9 + 2, none⟩ = some (.string (y).sc) := by rw [hbw, e1]; exact (hc k k1 2 (by omega)).1
    have c3 : w2.cell? ⟨g, k * 9 + 3, none⟩ = some (.string (y).ho) := by rw [hbw, e1]; exact (hc k k1 3 (by omega)).1
    have c4 : w2.cell? ⟨g, k * 9 + 4, none⟩ = some (.int .i64 (y).po) := by rw [hbw, e1]; exact (hc k k1 4 (by omega)).1
    have c5 : w2.cell? ⟨g, k * 9 + 5, none⟩ = some (.string (y).pt) := by rw [hbw, e1]; exact (hc k k1 5 (by omega)).1
    have c6 : w2.cell? ⟨g, k * 9 + 6, none⟩ = some (.bool (y).sb) := by rw [hbw, e1]; exact (hc k k1 6 (by omega)).1
    have c7 : w2.cell? ⟨g, k * 9 + 7, none⟩ = some (.bool (y).fl) := by rw [hbw, e1]; exact (hc k k1 7 (by omega)).1
    have c8 : w2.cell? ⟨g, k * 9 + 8, none⟩ = some (.int .i64 (y).tc) := by rw [hbw, e1]; exact (hc k k1 8 (by omega)).1
    clear hc hbw e1 hgw
    generalize ogF y = q at *
    obtain ⟨yid, ypa, ysc, yho, ypo, ypt, ysb, yfl, ytc⟩ := y
    obtain ⟨o1, o2, o3, o4⟩ := q
    unfold frV ogV at KO0
    dsimp only at *
    have KO : Hid (∀ W, Calls Tryd.prog 66 #[.agg #[.int .i64 yid, .int .i64 ypa, .string ysc, .string yho, .int .i64 ypo, .string ypt, .bool ysb, .bool yfl, .int .i64 ytc]] W fun e w' => e = .returned (.agg #[.string o1, .string o2, .int .i64 o3, .int .i64 o4]) ∧ Below W.heap.size W w') := KO0
    clear KO0
    go_wp2_with fail
    refine (KO.out _).mono ?_
    rintro e w3 ⟨rfl, hb3⟩
    have HX3 : Hid (BoxV w3 b [.string ⟨#[]⟩, .string ⟨#[]⟩, .int .i64 0, .int .i64 0]) := HX2.out.below hb3
    have B3 : Hid (Below b w w3) := B2.out.trans (hb3.mono (Nat.le_of_lt HX2.out.1))
    clear hb3 HX2 B2 c0 c1 c2 c3 c4 c5 c6 c7 c8 KO
    have x0 : w3.cell? ⟨b, 0, none⟩ = some (.string ⟨#[]⟩) := HX3.out.at (i := 0) rfl
    have xf0 : w3.frozen? ⟨b, 0, none⟩ = false := HX3.out.free (i := 0) rfl
    have x1 : w3.cell? ⟨b, 1, none⟩ = some (.string ⟨#[]⟩) := HX3.out.at (i := 1) rfl
    have xf1 : w3.frozen? ⟨b, 1, none⟩ = false := HX3.out.free (i := 1) rfl
    have x2 : w3.cell? ⟨b, 2, none⟩ = some (.int .i64 0) := HX3.out.at (i := 2) rfl
    have xf2 : w3.frozen? ⟨b, 2, none⟩ = false := HX3.out.free (i := 2) rfl
    have x3 : w3.cell? ⟨b, 3, none⟩ = some (.int .i64 0) := HX3.out.at (i := 3) rfl
    have xf3 : w3.frozen? ⟨b, 3, none⟩ = false := HX3.out.free (i := 3) rfl
    clear HX3
    go_wp2
    exact bodyPost_ret (v := .agg #[.string o1, .string o2, .int .i64 o3, .int .i64 o4]) (by simp [results, Tryd.results33, go_sem, x0, x1, x2, x3]) rfl ⟨by rw [HQ.out]; rfl, by first | exact (Below.setCell (Below.setCell (Below.setCell (Below.setCell B3.out (Nat.le_refl _) _) (Nat.le_refl _) _) (Nat.le_refl _) _) (Nat.le_refl _) _) | (rw [hbb]; exact (Below.setCell (Below.setCell (Below.setCell (Below.setCell B3.out (Nat.le_refl _) _) (Nat.le_refl _) _) (Nat.le_refl _) _) (Nat.le_refl _) _))⟩
end Go.Proofs.YtnpaekjiafaahaaDoor

/- The walks of the specification's OriginText and OriginSame. -/
namespace Go.Proofs.YtnpaekjiafaahaaDoor
open Go.RowKit

theorem placeB_parts {sc ho : ByteArray} {po : Int} (h : placeB sc ho po = true) : sc.size ≤ 5 ∧ ho.size ≤ 100 ∧ 1 ≤ po ∧ po ≤ 65535 := by
  unfold placeB at h
  simp only [Bool.and_eq_true, decide_eq_true_eq] at h
  obtain ⟨⟨h1, h2⟩, h3, h4⟩ := h
  refine ⟨schemeB_size h1, ?_, h3, h4⟩
  by_cases hz : 100 < ho.size
  · rw [hostB_size hz] at h2; cases h2
  · omega

/-- field by field -/
def sameF (sc ho : ByteArray) (po no : Int) (sc2 ho2 : ByteArray) (po2 no2 : Int) : Bool := (sc.toList == sc2.toList) && (ho.toList == ho2.toList) && (po == po2) && (no == no2)
/-- are two right origins the same? -/
def sameO (sc ho : ByteArray) (po no : Int) (sc2 ho2 : ByteArray) (po2 no2 : Int) : Bool := originB sc ho po no && originB sc2 ho2 po2 no2 && sameF sc ho po no sc2 ho2 po2 no2
end Go.Proofs.YtnpaekjiafaahaaDoor

/- The walk of together: two texts put together in new memory. -/
namespace Go.Proofs.YtnpaekjiafaahaaDoor
open Go.RowKit


set_option maxRecDepth 10000 in
set_option maxHeartbeats 400000 in
theorem together_full (x y : ByteArray) (w : World) (hz : x.size + y.size ≤ 1000000) (hy : ¬ y = ByteArray.empty) :
    Calls Tryd.prog 79 #[.string x, .string y] w fun e w' => e = .returned (.string (x ++ y)) ∧ Below w.heap.size w w' := by
  obtain ⟨w1, Z, hmk, HG1, hZ, hs1, hb1⟩ := make_row (P := Tryd.prog) w 100 5 _ Tryd.underlying100 infoU8 ((x.size : Int) + (y.size : Int)) (x.size + y.size) (by omega) (by omega)
  go_enter Tryd.func79, Tryd.ntmps79
  go_wp2_with fail
  obtain ⟨w2, hc2, HG2, hs2, hB2⟩ := copy_text (P := Tryd.prog) w1 100 9 3 5 Tryd.underlying100 sizeU8 (some ⟨w.heap.size, 0, none⟩) (x.size + y.size) (x.size + y.size) x (by omega) w.heap.size 0 Z _ HG1 (fun _ => rfl) (by omega)
  have hb2 := hB2 _ _ hb1 (Nat.le_refl _)
  rw [hc2]
  clear hc2 hmk hB2 HG1 hb1
  go_wp2_with fail
  have hl2 : (splice Z 0 (Lib.byteCells x.data.toList)).length = x.size + y.size := by rw [length_splice _ _ _ (by rw [len_cells]; omega), hZ]
  obtain ⟨w3, hc3, HG3, hs3, hB3⟩ := copy_text (P := Tryd.prog) w2 100 9 3 5 Tryd.underlying100 sizeU8 (some ⟨w.heap.size, x.size, none⟩) y.size y.size y (by omega) w.heap.size x.size _ _ HG2 (fun _ => rfl) (by omega)
  have hb3 := hB3 _ _ hb2 (Nat.le_refl _)
  have HG4 : RowAt w3 w.heap.size 5 (Lib.byteCells (x.data.toList ++ y.data.toList) ++ []) := by
    have e := splice_two Z (Lib.byteCells x.data.toList) (Lib.byteCells y.data.toList) (by rw [len_cells, len_cells]; exact hZ)
    rw [len_cells] at e
    rw [e, ← byteCells_append, ← List.append_nil (Lib.byteCells _)] at HG3
    exact HG3
  rw [hc3]
  clear hc3 hB3 HG2 HG3 hb2 hl2
  go_wp2_with fail
  rw [text_of_row (P := Tryd.prog) w3 100 9 5 Tryd.underlying100 Tryd.underlying5 Tryd.underlying9 w.heap.size (x.size + y.size) (x.size + y.size) 5 _ _ HG4 (by rw [List.length_append, ← Lib.size_eq, ← Lib.size_eq])]
  go_wp2
  go_ret
  exact ⟨ret_text (text_append x y), hb3⟩

set_option maxRecDepth 10000 in
set_option maxHeartbeats 400000 in
theorem together_empty (x : ByteArray) (w : World) (hz : x.size ≤ 1000000) :
    Calls Tryd.prog 79 #[.string x, .string ByteArray.empty] w fun e w' => e = .returned (.string x) ∧ Below w.heap.size w w' := by
  obtain ⟨w1, Z, hmk, HG1, hZ, hs1, hb1⟩ := make_row (P := Tryd.prog) w 100 5 _ Tryd.underlying100 infoU8 (x.size : Int) x.size (by omega) (by omega)
  go_enter Tryd.func79, Tryd.ntmps79
  go_wp2_with fail
  obtain ⟨w2, hc2, HG2, hs2, hB2⟩ := copy_text (P := Tryd.prog) w1 100 9 3 5 Tryd.underlying100 sizeU8 (some ⟨w.heap.size, 0, none⟩) x.size x.size x (by omega) w.heap.size 0 Z _ HG1 (fun _ => rfl) (by omega)
  have hb2 := hB2 _ _ hb1 (Nat.le_refl _)
  rw [hc2]
  clear hc2 hmk hB2 HG1 hb1
  go_wp2_with fail
  have HG4 : RowAt w2 w.heap.size 5 (Lib.byteCells x.data.toList ++ []) := by
    have e : splice Z 0 (Lib.byteCells x.data.toList) = Lib.byteCells x.data.toList ++ [] := by
      unfold splice
      rw [List.drop_eq_nil_of_le (by rw [len_cells]; omega)]
      simp
    rw [e] at HG2
    exact HG2
  rw [Lib.run_copy_empty_string (P := Tryd.prog) w2 100 9 3 5 (some ⟨w.heap.size, 0, none⟩) 0 0 ByteArray.empty Tryd.underlying100 (by rw [Option.isSome_iff_exists]; exact ⟨1, sizeU8⟩) rfl]
  go_wp2_with fail
  rw [text_of_row (P := Tryd.prog) w2 100 9 5 Tryd.underlying100 Tryd.underlying5 Tryd.underlying9 w.heap.size x.size x.size 5 _ _ HG4 (by rw [← Lib.size_eq])]
  go_wp2
  go_ret
  exact ⟨rfl, hb2⟩
theorem together_any (x y : ByteArray) (w : World) (hz : x.size + y.size ≤ 1000000) :
    Calls Tryd.prog 79 #[.string x, .string y] w fun e w' => e = .returned (.string (x ++ y)) ∧ Below w.heap.size w w' := by
  by_cases hy : y = ByteArray.empty
  · subst hy
    rw [ByteArray.append_empty]
    exact together_empty x w (by omega)
  · exact together_full x y w hz hy

end Go.Proofs.YtnpaekjiafaahaaDoor

/- The walks of the program's OriginRight, OriginOf, OriginText and OriginSame. -/
namespace Go.Proofs.YtnpaekjiafaahaaDoor
open Go.RowKit

set_option maxRecDepth 10000 in
set_option maxHeartbeats 400000 in
theorem originRight_any (sc ho : ByteArray) (po no : Int) (w : World) (hG : MaxI w) (hh : ho.size ≤ 1048576) :
    Calls Tryd.prog 101 #[originV sc ho po no] w fun e w' => e = .returned (.bool (originB sc ho po no)) ∧ Below w.heap.size w w' := by
  unfold originV
  have HG : Hid (∀ o, MaxI (w.alloc o)) := fun o => hG.on ((Below.refl _ _).alloc (Nat.le_refl _) _)
  clear hG
  by_cases h0 : no = 0
  · have q : (no == 0) = true := by rw [beq_iff_eq]; exact h0
    have H1 := fun W (h : MaxI W) => placeRight_any sc ho po W h hh
    have HP : Hid (originB sc ho po no = placeB sc ho po) := by show _ = _; rw [originB, if_pos h0]
    clear h0
    generalize placeB sc ho po = b at *
    have G1 : Hid (∀ W, MaxI W → Calls Tryd.prog 77 #[.string sc, .string ho, .int .i64 po] W fun e w' => e = .returned (.bool b) ∧ Below W.heap.size W w') := H1
    clear H1
    go_enter Tryd.func101, Tryd.ntmps101
    go_wp2_with fail
    refine (G1.out _ (HG.out _)).mono ?_
    rintro e w1 ⟨rfl, hb⟩
    go_wp2
    go_ret
    exact ⟨ret_bool HP.out.symm, ((Below.refl _ _).alloc (Nat.le_refl _) _).trans (hb.mono (by simp))⟩
  · have q : (no == 0) = false := by rw [beq_eq_false_iff_ne]; exact h0
    have HP : Hid (originB sc ho po no = ((decide (1 ≤ no) && decide (no ≤ 1000000)) && sc.toList.isEmpty && ho.toList.isEmpty && (po == 0))) := by show _ = _; rw [originB, if_neg h0]
    clear h0
    cases q1 : decide (1 ≤ no) with
    | false =>
      go_enter Tryd.func101, Tryd.ntmps101
      go_wp2
      go_ret
      exact ⟨ret_bool (by rw [HP.out, q1]; rfl), (Below.refl _ _).alloc (Nat.le_refl _) _⟩
    | true =>
      cases q2 : decide (no ≤ 1000000) with
      | false =>
        go_enter Tryd.func101, Tryd.ntmps101
        go_wp2
        go_ret
        exact ⟨ret_bool (by rw [HP.out, q1, q2]; rfl), (Below.refl _ _).alloc (Nat.le_refl _) _⟩
      | true =>
        go_enter Tryd.func101, Tryd.ntmps101
        go_wp2
        all_goals
          go_ret
          exact ⟨ret_bool (by rw [HP.out, q1, q2]; simp [*]), (Below.refl _ _).alloc (Nat.le_refl _) _⟩
/-- a url's fields at block g, an empty origin's behind it -/
def OfAt (w : World) (g : Nat) (sc ho : ByteArray) (po : Int) : Prop :=
  g + 1 < w.heap.size ∧ w.cell? ⟨g, 0, none⟩ = some (.string sc) ∧ w.cell? ⟨g, 1, none⟩ = some (.string ho) ∧ w.cell? ⟨g, 2, none⟩ = some (.int .i64 po) ∧ w.cell? ⟨g + 1, 0, none⟩ = some (.string ⟨#[]⟩) ∧ w.cell? ⟨g + 1, 1, none⟩ = some (.string ⟨#[]⟩) ∧ w.cell? ⟨g + 1, 2, none⟩ = some (.int .i64 0) ∧ w.cell? ⟨g + 1, 3, none⟩ = some (.int .i64 0) ∧ w.frozen? ⟨g + 1, 0, none⟩ = false ∧ w.frozen? ⟨g + 1, 1, none⟩ = false ∧ w.frozen? ⟨g + 1, 2, none⟩ = false ∧ w.frozen? ⟨g + 1, 3, none⟩ = false
theorem OfAt.below {w w' : World} {g : Nat} {sc ho : ByteArray} {po : Int} (h : OfAt w g sc ho po) (hb : Below w.heap.size w w') : OfAt w' g sc ho po := by
  obtain ⟨h0, h1, h2, h3, h4, h5, h6, h7, h8, h9, ha, hc⟩ := h
  have hz := hb.size
  obtain ⟨kc, kf⟩ := bcell hb
  refine ⟨by omega, ?_, ?_, ?_, ?_, ?_, ?_, ?_, ?_, ?_, ?_, ?_⟩
  · rw [kc _ _ (by omega)]; exact h1
  · rw [kc _ _ (by omega)]; exact h2
  · rw [kc _ _ (by omega)]; exact h3
  · rw [kc _ _ h0]; exact h4
  · rw [kc _ _ h0]; exact h5
  · rw [kc _ _ h0]; exact h6
  · rw [kc _ _ h0]; exact h7
  · rw [kf _ _ h0]; exact h8
  · rw [kf _ _ h0]; exact h9
  · rw [kf _ _ h0]; exact ha
  · rw [kf _ _ h0]; exact hc
set_option maxRecDepth 10000 in
set_option maxHeartbeats 1000000 in
theorem originOf_any (sc ho pa : ByteArray) (po : Int) (w : World) (hG : MaxI w) (hh : ho.size ≤ 1048576) :
    Calls Tryd.prog 68 #[urlV sc ho pa po] w fun e w' => e = .returned (if urlB sc ho pa po = true then originV sc ho po 0 else originV ⟨#[]⟩ ⟨#[]⟩ 0 0) ∧ Below w.heap.size w w' := by
  have H1 := fun W (h : MaxI W) => urlRight_any sc ho pa po W h hh
  have HG : Hid (∀ o o', MaxI ((w.alloc o).alloc o')) := fun o o' => hG.on (((Below.refl _ _).alloc (Nat.le_refl _) _).alloc (by simp) _)
  clear hG
  unfold urlV at H1 ⊢
  cases hu : urlB sc ho pa po with
  | false =>
    rw [hu] at H1
    rw [if_neg (by simp)]
    have G1 : Hid (∀ W, MaxI W → Calls Tryd.prog 50 #[.agg #[.string sc, .string ho, .int .i64 po, .string pa]] W fun e w' => e = .returned (.bool false) ∧ Below W.heap.size W w') := H1
    clear H1 hu
    go_enter Tryd.func68, Tryd.ntmps68
    go_wp2_with fail
    refine (G1.out _ (HG.out _ _)).mono ?_
    rintro e w1 ⟨rfl, hb⟩
    obtain ⟨hc, hf⟩ := bcell hb
    go_wp2
    refine bodyPost_ret (v := originV ⟨#[]⟩ ⟨#[]⟩ 0 0) (by simp [originV, results, Tryd.results68, go_sem, hc]) rfl ⟨rfl, ?_⟩
    exact Below.setCell (Below.setCell (Below.setCell (Below.setCell ((((Below.refl _ _).alloc (Nat.le_refl _) _).alloc (by simp) _).trans (hb.mono (by simp; omega))) (by simp) _) (by simp) _) (by simp) _) (by simp) _
  | true =>
    obtain ⟨h1, h2, _, _, _⟩ := urlB_parts hu
    have G2 : Hid (∀ W, Calls Tryd.prog 79 #[.string sc, .string ⟨#[]⟩] W fun e w' => e = .returned (.string sc) ∧ Below W.heap.size W w') := fun W => together_empty sc W (by omega)
    have G3 : Hid (∀ W, Calls Tryd.prog 79 #[.string ho, .string ⟨#[]⟩] W fun e w' => e = .returned (.string ho) ∧ Below W.heap.size W w') := fun W => together_empty ho W (by omega)
    rw [hu] at H1
    rw [if_pos rfl]
    have G1 : Hid (∀ W, MaxI W → Calls Tryd.prog 50 #[.agg #[.string sc, .string ho, .int .i64 po, .string pa]] W fun e w' => e = .returned (.bool true) ∧ Below W.heap.size W w') := H1
    clear H1 hu h1 h2
    go_enter Tryd.func68, Tryd.ntmps68
    go_wp2_with fail
    refine (G1.out _ (HG.out _ _)).mono ?_
    rintro e w1 ⟨rfl, hb⟩
    have hz1 : w.heap.size + 1 < w1.heap.size := by have := hb.size; simp at this; omega
    have HB : Hid (Below w.heap.size w w1) := (((Below.refl _ _).alloc (Nat.le_refl _) _).alloc (by simp) _).trans (hb.mono (by simp; omega))
    obtain ⟨hc, hf⟩ := bcell hb
    have c0 : w1.cell? ⟨w.heap.size, 0, none⟩ = some (.string sc) := by rw [hc _ _ (by simp <;> omega), World.cell?_alloc_lt _ _ ⟨w.heap.size, 0, none⟩ (by simp)]; simp
    have c1 : w1.cell? ⟨w.heap.size, 1, none⟩ = some (.string ho) := by rw [hc _ _ (by simp <;> omega), World.cell?_alloc_lt _ _ ⟨w.heap.size, 1, none⟩ (by simp)]; simp
    have c2 : w1.cell? ⟨w.heap.size, 2, none⟩ = some (.int .i64 po) := by rw [hc _ _ (by simp <;> omega), World.cell?_alloc_lt _ _ ⟨w.heap.size, 2, none⟩ (by simp)]; simp
    have r0 : w1.cell? ⟨w.heap.size + 1, 0, none⟩ = some (.string ⟨#[]⟩) := by rw [hc _ _ (by simp <;> omega), World.cell?_alloc_at _ _ _ _ (by simp)]; rfl
    have r1 : w1.cell? ⟨w.heap.size + 1, 1, none⟩ = some (.string ⟨#[]⟩) := by rw [hc _ _ (by simp <;> omega), World.cell?_alloc_at _ _ _ _ (by simp)]; rfl
    have r2 : w1.cell? ⟨w.heap.size + 1, 2, none⟩ = some (.int .i64 0) := by rw [hc _ _ (by simp <;> omega), World.cell?_alloc_at _ _ _ _ (by simp)]; rfl
    have r3 : w1.cell? ⟨w.heap.size + 1, 3, none⟩ = some (.int .i64 0) := by rw [hc _ _ (by simp <;> omega), World.cell?_alloc_at _ _ _ _ (by simp)]; rfl
    have hfz : ∀ o, w1.frozen? ⟨w.heap.size + 1, o, none⟩ = false := fun o => by rw [hf _ _ (by simp <;> omega)]; simp
    have f0 := hfz 0
    have f1 := hfz 1
    have f2 := hfz 2
    have f3 := hfz 3
    clear hb hc hf hfz
    go_wp2_with fail
    go_region_held3 (fun w' => w.heap.size + 1 < w'.heap.size ∧ w'.cell? ⟨w.heap.size, 0, none⟩ = some (.string sc) ∧ w'.cell? ⟨w.heap.size, 1, none⟩ = some (.string ho) ∧ w'.cell? ⟨w.heap.size, 2, none⟩ = some (.int .i64 po)) (go_keep)
      (first
        | (go_at_call_of 79 (Value.string sc); refine (G2.out _).mono ?_; rintro e wA ⟨rfl, hbA⟩; have TA := OfAt.below (g := w.heap.size) (sc := sc) (ho := ho) (po := po) (by unfold OfAt; go_keep) hbA; obtain ⟨zA, p0A, p1A, p2A, q0A, q1A, q2A, q3A, f0A, f1A, f2A, f3A⟩ := TA)
        | (go_at_call_of 79 (Value.string ho); refine (G3.out _).mono ?_; rintro e wB ⟨rfl, hbB⟩; have TB := OfAt.below (g := w.heap.size) (sc := sc) (ho := ho) (po := po) (by unfold OfAt; go_keep) hbB; obtain ⟨zB, p0B, p1B, p2B, q0B, q1B, q2B, q3B, f0B, f1B, f2B, f3B⟩ := TB))
    have HBB : Hid (Below w.heap.size w wB) := (HB.out.trans (((Below.refl _ _).drew).trans (hbA.mono (by simp; omega)))).trans (hbB.mono (by omega))
    clear hbA hbB
    go_wp2
    refine bodyPost_ret (v := originV sc ho po 0) (by simp [originV, results, Tryd.results68, go_sem, q0B, q1B, q2B, q3B]) rfl ⟨rfl, ?_⟩
    exact Below.setCell (Below.setCell (Below.setCell (Below.setCell HBB.out (by simp) _) (by simp) _) (by simp) _) (by simp) _
theorem sameF_eq {sc ho : ByteArray} {po no : Int} {sc2 ho2 : ByteArray} {po2 no2 : Int} (h : sameF sc ho po no sc2 ho2 po2 no2 = true) : sc = sc2 ∧ ho = ho2 ∧ po = po2 ∧ no = no2 := by
  unfold sameF at h
  simp only [Bool.and_eq_true, beq_iff_eq] at h
  obtain ⟨⟨⟨h1, h2⟩, h3⟩, h4⟩ := h
  rw [ByteArray.toList_eq, ByteArray.toList_eq] at h1 h2
  refine ⟨?_, ?_, h3, h4⟩
  · cases sc; cases sc2; congr 1; exact Array.toList_inj.1 h1
  · cases ho; cases ho2; congr 1; exact Array.toList_inj.1 h2
set_option maxRecDepth 10000 in
set_option maxHeartbeats 400000 in
theorem originSame_any (sc ho : ByteArray) (po no : Int) (sc2 ho2 : ByteArray) (po2 no2 : Int) (w : World) (hG : MaxI w) (hh : ho.size ≤ 1048576) :
    Calls Tryd.prog 87 #[originV sc ho po no, originV sc2 ho2 po2 no2] w fun e w' => e = .returned (.bool (sameO sc ho po no sc2 ho2 po2 no2)) ∧ Below w.heap.size w w' := by
  have H1 := fun W (h : MaxI W) => originRight_any sc ho po no W h hh
  have HG : Hid (∀ o o', MaxI ((w.alloc o).alloc o')) := fun o o' => hG.on (((Below.refl _ _).alloc (Nat.le_refl _) _).alloc (by simp) _)
  have HS : Hid (sameO sc ho po no sc2 ho2 po2 no2 = (originB sc ho po no && originB sc2 ho2 po2 no2 && sameF sc ho po no sc2 ho2 po2 no2)) := rfl
  have HF : Hid (sameF sc ho po no sc2 ho2 po2 no2 = ((sc.toList == sc2.toList) && (ho.toList == ho2.toList) && (po == po2) && (no == no2))) := rfl
  have HE : Hid (sameF sc ho po no sc2 ho2 po2 no2 = true → originB sc2 ho2 po2 no2 = originB sc ho po no) := fun h => by
    obtain ⟨rfl, rfl, rfl, rfl⟩ := sameF_eq h
    rfl
  generalize originB sc ho po no = b at *
  unfold originV at H1 ⊢
  have G1 : Hid (∀ W, MaxI W → Calls Tryd.prog 101 #[.agg #[.string sc, .string ho, .int .i64 po, .int .i64 no]] W fun e w' => e = .returned (.bool b) ∧ Below W.heap.size W w') := H1
  clear H1 hG
  cases hs : sameF sc ho po no sc2 ho2 po2 no2 with
  | false =>
    have HQ : Hid (sameO sc ho po no sc2 ho2 po2 no2 = false) := by show _ = _; rw [HS.out, hs]; simp
    rw [HF.out] at hs
    have HW : Hid (∀ o o', Below w.heap.size w ((w.alloc o).alloc o')) := fun o o' => ((Below.refl _ _).alloc (Nat.le_refl _) _).alloc (by simp) _
    cases e1 : (sc.toList == sc2.toList) with
    | false =>
      go_enter Tryd.func87, Tryd.ntmps87
      go_wp2
      go_ret
      exact ⟨ret_bool HQ.out.symm, HW.out _ _⟩
    | true =>
      cases e2 : (ho.toList == ho2.toList) with
      | false =>
        go_enter Tryd.func87, Tryd.ntmps87
        go_wp2
        go_ret
        exact ⟨ret_bool HQ.out.symm, HW.out _ _⟩
      | true =>
        cases e3 : (po == po2) with
        | false =>
          go_enter Tryd.func87, Tryd.ntmps87
          go_wp2
          go_ret
          exact ⟨ret_bool HQ.out.symm, HW.out _ _⟩
        | true =>
          have e4 : (no == no2) = false := by rw [e1, e2, e3] at hs; exact hs
          go_enter Tryd.func87, Tryd.ntmps87
          go_wp2
          go_ret
          exact ⟨ret_bool HQ.out.symm, HW.out _ _⟩
  | true =>
    have HQ : Hid (sameO sc ho po no sc2 ho2 po2 no2 = b) := by show _ = _; rw [HS.out, hs, HE.out hs]; simp
    obtain ⟨rfl, rfl, rfl, rfl⟩ := sameF_eq hs
    clear hs HS HF HE
    go_enter Tryd.func87, Tryd.ntmps87
    go_wp2_with fail
    refine (G1.out _ (HG.out _ _)).mono ?_
    rintro e w1 ⟨rfl, hb⟩
    go_wp2
    all_goals
      go_ret
      exact ⟨ret_bool HQ.out.symm, (((Below.refl _ _).alloc (Nat.le_refl _) _).alloc (by simp) _).trans (hb.mono (by simp; omega))⟩
end Go.Proofs.YtnpaekjiafaahaaDoor

/- The walks of the program's frameOf and FrameOrigin. Written by implorg9.py. -/
namespace Go.Proofs.YtnpaekjiafaahaaDoor
open Go.RowKit

set_option maxRecDepth 10000 in
set_option maxHeartbeats 4000000 in
theorem frameOf_any (v : Value) (L : List Fr) (B : Nat) (id : Int) (w : World) (hG : MaxI w) (hs : SliceF w B v L) (hn : L.length ≤ 1048576) (hh : ∀ i, i < L.length → (atF L i).ho.size ≤ 1048576) :
    Calls Tryd.prog 67 #[v, .int .i64 id] w fun e w' => e = .returned (.tuple #[frV (if (hereF L id && framesB L) = true then getF L id else frNone), .bool (hereF L id && framesB L)]) ∧ Below w.heap.size w w' := by
  have KP : Hid (∀ W, Below w.heap.size w W → Calls Tryd.prog 59 #[v, .int .i64 id] W fun e w' => e = .returned (.int .i64 (whF L id)) ∧ Below W.heap.size W w') := fun W hb => placeOf9_any v L B id W (hs.below hb) hn
  have KR : Hid (∀ W, Below w.heap.size w W → Calls Tryd.prog 13 #[v] W fun e w' => e = .returned (.bool (framesB L)) ∧ Below W.heap.size W w') := fun W hb => framesRight_any v L B W (hG.on hb) (hs.below hb) hn hh
  have HH : Hid (hereF L id = true → (whF L id).toNat < L.length ∧ (whF L id) = ((whF L id).toNat : Int)) := fun h => hereF_at h
  have HE : Hid (hereF L id = decide (0 ≤ whF L id)) := rfl
  have HGe : Hid (getF L id = atF L (whF L id).toNat) := rfl
  have HS : Hid (SliceF w B v L) := hs
  have HX0 : Hid (BoxV (w.alloc (.cells #[.int .i64 0, .int .i64 0, .string ⟨#[]⟩, .string ⟨#[]⟩, .int .i64 0, .string ⟨#[]⟩, .bool false, .bool false, .int .i64 0] 60)) w.heap.size [.int .i64 0, .int .i64 0, .string ⟨#[]⟩, .string ⟨#[]⟩, .int .i64 0, .string ⟨#[]⟩, .bool false, .bool false, .int .i64 0]) := boxV_new w [.int .i64 0, .int .i64 0, .string ⟨#[]⟩, .string ⟨#[]⟩, .int .i64 0, .string ⟨#[]⟩, .bool false, .bool false, .int .i64 0] 60
  have HB0 : Hid (Below w.heap.size w (w.alloc (.cells #[.int .i64 0, .int .i64 0, .string ⟨#[]⟩, .string ⟨#[]⟩, .int .i64 0, .string ⟨#[]⟩, .bool false, .bool false, .int .i64 0] 60))) := (Below.refl _ _).alloc (Nat.le_refl _) _
  clear hs hG hh
  generalize framesB L = fb at *
  generalize getF L id = y at *
  generalize hereF L id = hf at *
  generalize whF L id = z at *
  go_enter Tryd.func67, Tryd.ntmps67
  go_wp2_with fail
  refine (KP.out _ HB0.out).mono ?_
  rintro e w1 ⟨rfl, hb1⟩
  have HX1 : Hid (BoxV w1 w.heap.size [.int .i64 0, .int .i64 0, .string ⟨#[]⟩, .string ⟨#[]⟩, .int .i64 0, .string ⟨#[]⟩, .bool false, .bool false, .int .i64 0]) := HX0.out.below hb1
  have B1 : Hid (Below w.heap.size w w1) := HB0.out.trans (hb1.mono HB0.out.size)
  clear hb1 HX0 HB0 KP
  generalize hbb : w.heap.size = b at *
  cases hf with
  | false =>
    have q0 : decide (z < 0) = true := by
      have h : false = decide (0 ≤ z) := HE.out
      have := of_decide_eq_false h.symm
      exact decide_eq_true (by omega)
    have x0 : w1.cell? ⟨b, 0, none⟩ = some (.int .i64 0) := HX1.out.at (i := 0) rfl
    have xf0 : w1.frozen? ⟨b, 0, none⟩ = false := HX1.out.free (i := 0) rfl
    have x1 : w1.cell? ⟨b, 1, none⟩ = some (.int .i64 0) := HX1.out.at (i := 1) rfl
    have xf1 : w1.frozen? ⟨b, 1, none⟩ = false := HX1.out.free (i := 1) rfl
    have x2 : w1.cell? ⟨b, 2, none⟩ = some (.string ⟨#[]⟩) := HX1.out.at (i := 2) rfl
    have xf2 : w1.frozen? ⟨b, 2, none⟩ = false := HX1.out.free (i := 2) rfl
    have x3 : w1.cell? ⟨b, 3, none⟩ = some (.string ⟨#[]⟩) := HX1.out.at (i := 3) rfl
    have xf3 : w1.frozen? ⟨b, 3, none⟩ = false := HX1.out.free (i := 3) rfl
    have x4 : w1.cell? ⟨b, 4, none⟩ = some (.int .i64 0) := HX1.out.at (i := 4) rfl
    have xf4 : w1.frozen? ⟨b, 4, none⟩ = false := HX1.out.free (i := 4) rfl
    have x5 : w1.cell? ⟨b, 5, none⟩ = some (.string ⟨#[]⟩) := HX1.out.at (i := 5) rfl
    have xf5 : w1.frozen? ⟨b, 5, none⟩ = false := HX1.out.free (i := 5) rfl
    have x6 : w1.cell? ⟨b, 6, none⟩ = some (.bool false) := HX1.out.at (i := 6) rfl
    have xf6 : w1.frozen? ⟨b, 6, none⟩ = false := HX1.out.free (i := 6) rfl
    have x7 : w1.cell? ⟨b, 7, none⟩ = some (.bool false) := HX1.out.at (i := 7) rfl
    have xf7 : w1.frozen? ⟨b, 7, none⟩ = false := HX1.out.free (i := 7) rfl
    have x8 : w1.cell? ⟨b, 8, none⟩ = some (.int .i64 0) := HX1.out.at (i := 8) rfl
    have xf8 : w1.frozen? ⟨b, 8, none⟩ = false := HX1.out.free (i := 8) rfl
    clear HX1
    go_wp2
    exact bodyPost_ret (v := .tuple #[.agg #[.int .i64 0, .int .i64 0, .string ⟨#[]⟩, .string ⟨#[]⟩, .int .i64 0, .string ⟨#[]⟩, .bool false, .bool false, .int .i64 0], .bool false]) (by simp [results, Tryd.results67, go_sem, x0, x1, x2, x3, x4, x5, x6, x7, x8]) rfl ⟨rfl, (Below.setCell (Below.setCell (Below.setCell (Below.setCell (Below.setCell (Below.setCell (Below.setCell (Below.setCell (Below.setCell B1.out (Nat.le_refl _) _) (Nat.le_refl _) _) (Nat.le_refl _) _) (Nat.le_refl _) _) (Nat.le_refl _) _) (Nat.le_refl _) _) (Nat.le_refl _) _) (Nat.le_refl _) _) (Nat.le_refl _) _)⟩
  | true =>
  have q0 : decide (z < 0) = false := by
    have h : true = decide (0 ≤ z) := HE.out
    have := of_decide_eq_true h.symm
    exact decide_eq_false (by omega)
  obtain ⟨k, hk, hz2⟩ : ∃ k : Nat, k = z.toNat ∧ z = (k : Int) := ⟨z.toNat, rfl, (HH.out rfl).2⟩
  have k1 : k < L.length := by rw [hk]; exact (HH.out rfl).1
  have HGk : Hid (y = atF L k) := by show y = _; rw [hk]; exact HGe.out
  clear HE HH HGe hk
  subst hz2
  go_wp2_with fail
  refine (KR.out _ (by first | exact B1.out | (rw [hbb]; exact B1.out))).mono ?_
  rintro e w2 ⟨rfl, hb2⟩
  have HX2 : Hid (BoxV w2 b [.int .i64 0, .int .i64 0, .string ⟨#[]⟩, .string ⟨#[]⟩, .int .i64 0, .string ⟨#[]⟩, .bool false, .bool false, .int .i64 0]) := HX1.out.below hb2
  have B2 : Hid (Below b w w2) := B1.out.trans (hb2.mono (by rw [← hbb]; exact B1.out.size))
  clear hb2 HX1 KR
  have x0 : w2.cell? ⟨b, 0, none⟩ = some (.int .i64 0) := HX2.out.at (i := 0) rfl
  have xf0 : w2.frozen? ⟨b, 0, none⟩ = false := HX2.out.free (i := 0) rfl
  have x1 : w2.cell? ⟨b, 1, none⟩ = some (.int .i64 0) := HX2.out.at (i := 1) rfl
  have xf1 : w2.frozen? ⟨b, 1, none⟩ = false := HX2.out.free (i := 1) rfl
  have x2 : w2.cell? ⟨b, 2, none⟩ = some (.string ⟨#[]⟩) := HX2.out.at (i := 2) rfl
  have xf2 : w2.frozen? ⟨b, 2, none⟩ = false := HX2.out.free (i := 2) rfl
  have x3 : w2.cell? ⟨b, 3, none⟩ = some (.string ⟨#[]⟩) := HX2.out.at (i := 3) rfl
  have xf3 : w2.frozen? ⟨b, 3, none⟩ = false := HX2.out.free (i := 3) rfl
  have x4 : w2.cell? ⟨b, 4, none⟩ = some (.int .i64 0) := HX2.out.at (i := 4) rfl
  have xf4 : w2.frozen? ⟨b, 4, none⟩ = false := HX2.out.free (i := 4) rfl
  have x5 : w2.cell? ⟨b, 5, none⟩ = some (.string ⟨#[]⟩) := HX2.out.at (i := 5) rfl
  have xf5 : w2.frozen? ⟨b, 5, none⟩ = false := HX2.out.free (i := 5) rfl
  have x6 : w2.cell? ⟨b, 6, none⟩ = some (.bool false) := HX2.out.at (i := 6) rfl
  have xf6 : w2.frozen? ⟨b, 6, none⟩ = false := HX2.out.free (i := 6) rfl
  have x7 : w2.cell? ⟨b, 7, none⟩ = some (.bool false) := HX2.out.at (i := 7) rfl
  have xf7 : w2.frozen? ⟨b, 7, none⟩ = false := HX2.out.free (i := 7) rfl
  have x8 : w2.cell? ⟨b, 8, none⟩ = some (.int .i64 0) := HX2.out.at (i := 8) rfl
  have xf8 : w2.frozen? ⟨b, 8, none⟩ = false := HX2.out.free (i := 8) rfl
  clear HX2 B1
  cases fb with
  | false =>
    go_wp2
    exact bodyPost_ret (v := .tuple #[.agg #[.int .i64 0, .int .i64 0, .string ⟨#[]⟩, .string ⟨#[]⟩, .int .i64 0, .string ⟨#[]⟩, .bool false, .bool false, .int .i64 0], .bool false]) (by simp [results, Tryd.results67, go_sem, x0, x1, x2, x3, x4, x5, x6, x7, x8]) rfl ⟨rfl, (Below.setCell (Below.setCell (Below.setCell (Below.setCell (Below.setCell (Below.setCell (Below.setCell (Below.setCell (Below.setCell B2.out (Nat.le_refl _) _) (Nat.le_refl _) _) (Nat.le_refl _) _) (Nat.le_refl _) _) (Nat.le_refl _) _) (Nat.le_refl _) _) (Nat.le_refl _) _) (Nat.le_refl _) _) (Nat.le_refl _) _)⟩
  | true =>
    obtain ⟨⟨p, cap, rfl, hg⟩, -⟩ := HS.out
    obtain ⟨g, rfl, -, hgw, hc⟩ := hg (by omega)
    clear hg HS
    have e1 : y = atF L k := HGk.out
    clear HGk
    have k0 : (0 : Int) ≤ k := by omega
    have k2 : (k : Int) < L.length := by omega
    have hbw : ∀ o, w2.cell? ⟨g, o, none⟩ = w.cell? ⟨g, o, none⟩ := fun o => B2.out.cell (p := ⟨g, o, none⟩) (by rw [← hbb]; exact hgw)
    have c0 : w2.cell? ⟨g, k * 9, none⟩ = some (.int .i64 (y).id) := by rw [hbw, e1]; exact (hc k k1 0 (by omega)).1
    have c1 : w2.cell? ⟨g, k * 9 + 1, none⟩ = some (.int .i64 (y).pa) := by rw [hbw, e1]; exact (hc k k1 1 (by omega)).1
    have c2 : w2.cell? ⟨g, k * 9 + 2, none⟩ = some (.string (y).sc) := by rw [hbw, e1]; exact (hc k k1 2 (by omega)).1
    have c3 : w2.cell? ⟨g, k * 9 + 3, none⟩ = some (.string (y).ho) := by rw [hbw, e1]; exact (hc k k1 3 (by omega)).1
    have c4 : w2.cell? ⟨g, k * 9 + 4, none⟩ = some (.int .i64 (y).po) := by rw [hbw, e1]; exact (hc k k1 4 (by omega)).1
    have c5 : w2.cell? ⟨g, k * 9 + 5, none⟩ = some (.string (y).pt) := by rw [hbw, e1]; exact (hc k k1 5 (by omega)).1
    have c6 : w2.cell? ⟨g, k * 9 + 6, none⟩ = some (.bool (y).sb) := by rw [hbw, e1]; exact (hc k k1 6 (by omega)).1
    have c7 : w2.cell? ⟨g, k * 9 + 7, none⟩ = some (.bool (y).fl) := by rw [hbw, e1]; exact (hc k k1 7 (by omega)).1
    have c8 : w2.cell? ⟨g, k * 9 + 8, none⟩ = some (.int .i64 (y).tc) := by rw [hbw, e1]; exact (hc k k1 8 (by omega)).1
    clear hc hbw e1 hgw
    obtain ⟨yid, ypa, ysc, yho, ypo, ypt, ysb, yfl, ytc⟩ := y
    dsimp only at *
    go_wp2
    exact bodyPost_ret (v := .tuple #[.agg #[.int .i64 yid, .int .i64 ypa, .string ysc, .string yho, .int .i64 ypo, .string ypt, .bool ysb, .bool yfl, .int .i64 ytc], .bool true]) (by simp [results, Tryd.results67, go_sem, x0, x1, x2, x3, x4, x5, x6, x7, x8]) rfl ⟨rfl, (Below.setCell (Below.setCell (Below.setCell (Below.setCell (Below.setCell (Below.setCell (Below.setCell (Below.setCell (Below.setCell B2.out (Nat.le_refl _) _) (Nat.le_refl _) _) (Nat.le_refl _) _) (Nat.le_refl _) _) (Nat.le_refl _) _) (Nat.le_refl _) _) (Nat.le_refl _) _) (Nat.le_refl _) _) (Nat.le_refl _) _)⟩
set_option maxRecDepth 10000 in
set_option maxHeartbeats 4000000 in
theorem frameOrigin_any (v : Value) (L : List Fr) (B : Nat) (id : Int) (w : World) (hG : MaxI w) (hs : SliceF w B v L) (hn : L.length ≤ 1048576) (hh : ∀ i, i < L.length → (atF L i).ho.size ≤ 1048576) :
    Calls Tryd.prog 34 #[v, .int .i64 id] w fun e w' => e = .returned (ogV (orgF L id)) ∧ Below w.heap.size w w' := by
  have KF : Hid (∀ W, Below w.heap.size w W → Calls Tryd.prog 67 #[v, .int .i64 id] W fun e w' => e = .returned (.tuple #[frV (if (hereF L id && framesB L) = true then getF L id else frNone), .bool (hereF L id && framesB L)]) ∧ Below W.heap.size W w') := fun W hb => frameOf_any v L B id W (hG.on hb) (hs.below hb) hn hh
  have HE : Hid (orgF L id = if (hereF L id && framesB L) = true then ogF (getF L id) else ogNone) := rfl
  have HHo : Hid ((hereF L id && framesB L) = true → (getF L id).ho.size ≤ 1048576) := fun h => by
    rw [Bool.and_eq_true] at h
    exact hh _ (hereF_at h.1).1
  have HX0 : Hid (BoxV (w.alloc (.cells #[.string ⟨#[]⟩, .string ⟨#[]⟩, .int .i64 0, .int .i64 0] 51)) w.heap.size [.string ⟨#[]⟩, .string ⟨#[]⟩, .int .i64 0, .int .i64 0]) := boxV_new w [.string ⟨#[]⟩, .string ⟨#[]⟩, .int .i64 0, .int .i64 0] 51
  have HB0 : Hid (Below w.heap.size w (w.alloc (.cells #[.string ⟨#[]⟩, .string ⟨#[]⟩, .int .i64 0, .int .i64 0] 51))) := (Below.refl _ _).alloc (Nat.le_refl _) _
  have HGo : Hid (∀ W, Below w.heap.size w W → MaxI W) := fun W hb => hG.on hb
  clear hs hG hh
  generalize orgF L id = R at *
  generalize hok : (hereF L id && framesB L) = ok at *
  generalize getF L id = y at *
  cases ok with
  | false =>
    have HQ : Hid (R = ogNone) := HE.out
    clear HHo HE
    rw [if_neg (by decide)] at KF
    go_enter Tryd.func34, Tryd.ntmps34
    go_wp2_with fail
    refine (KF.out _ HB0.out).mono ?_
    rintro e w1 ⟨rfl, hb1⟩
    have HX1 : Hid (BoxV w1 w.heap.size [.string ⟨#[]⟩, .string ⟨#[]⟩, .int .i64 0, .int .i64 0]) := HX0.out.below hb1
    have B1 : Hid (Below w.heap.size w w1) := HB0.out.trans (hb1.mono HB0.out.size)
    clear hb1 HX0 HB0 KF
    generalize hbb : w.heap.size = b at *
    have x0 : w1.cell? ⟨b, 0, none⟩ = some (.string ⟨#[]⟩) := HX1.out.at (i := 0) rfl
    have xf0 : w1.frozen? ⟨b, 0, none⟩ = false := HX1.out.free (i := 0) rfl
    have x1 : w1.cell? ⟨b, 1, none⟩ = some (.string ⟨#[]⟩) := HX1.out.at (i := 1) rfl
    have xf1 : w1.frozen? ⟨b, 1, none⟩ = false := HX1.out.free (i := 1) rfl
    have x2 : w1.cell? ⟨b, 2, none⟩ = some (.int .i64 0) := HX1.out.at (i := 2) rfl
    have xf2 : w1.frozen? ⟨b, 2, none⟩ = false := HX1.out.free (i := 2) rfl
    have x3 : w1.cell? ⟨b, 3, none⟩ = some (.int .i64 0) := HX1.out.at (i := 3) rfl
    have xf3 : w1.frozen? ⟨b, 3, none⟩ = false := HX1.out.free (i := 3) rfl
    have hz : b < w1.heap.size := HX1.out.1
    clear HX1
    unfold frV frNone
    dsimp only
    go_wp2
    exact bodyPost_ret (v := .agg #[.string ⟨#[]⟩, .string ⟨#[]⟩, .int .i64 0, .int .i64 0]) (by simp [results, Tryd.results34, go_sem, cell_under9, hz, x0, x1, x2, x3]) rfl ⟨by rw [HQ.out]; rfl, by rw [hbb]; exact Below.alloc (Below.setCell (Below.setCell (Below.setCell (Below.setCell B1.out (Nat.le_refl _) _) (Nat.le_refl _) _) (Nat.le_refl _) _) (Nat.le_refl _) _) (by simp; omega) _⟩
  | true =>
    have HQ : Hid (R = ogF y) := HE.out
    have hho := HHo.out rfl
    rw [if_pos rfl] at KF
    have KO0 : ∀ W, Below w.heap.size w W → Calls Tryd.prog 68 #[.agg #[.string y.sc, .string y.ho, .int .i64 y.po, .string y.pt]] W fun e w' => e = .returned (ogV (ogUrl y.sc y.ho y.pt y.po)) ∧ Below W.heap.size W w' := fun W hb => by
      have := originOf_any y.sc y.ho y.pt y.po W (HGo.out W hb) hho
      rw [ogUrl_V] at this
      exact this
    have HO1 : Hid (y.sb = true → ogF y = ⟨⟨#[]⟩, ⟨#[]⟩, 0, y.id⟩) := fun h => by unfold ogF; rw [if_pos h]
    have HO2 : Hid (y.sb = false → ogF y = ogUrl y.sc y.ho y.pt y.po) := fun h => by unfold ogF; rw [if_neg (by rw [h]; decide)]
    clear HHo HE hho HGo
    generalize ogF y = q at *
    generalize hou : ogUrl y.sc y.ho y.pt y.po = ou at *
    clear hou
    obtain ⟨yid, ypa, ysc, yho, ypo, ypt, ysb, yfl, ytc⟩ := y
    obtain ⟨o1, o2, o3, o4⟩ := ou
    unfold frV ogV at *
    dsimp only at *
    have KO : Hid (∀ W, Below w.heap.size w W → Calls Tryd.prog 68 #[.agg #[.string ysc, .string yho, .int .i64 ypo, .string ypt]] W fun e w' => e = .returned (.agg #[.string o1, .string o2, .int .i64 o3, .int .i64 o4]) ∧ Below W.heap.size W w') := KO0
    clear KO0
    go_enter Tryd.func34, Tryd.ntmps34
    go_wp2_with fail
    refine (KF.out _ HB0.out).mono ?_
    rintro e w1 ⟨rfl, hb1⟩
    have HX1 : Hid (BoxV w1 w.heap.size [.string ⟨#[]⟩, .string ⟨#[]⟩, .int .i64 0, .int .i64 0]) := HX0.out.below hb1
    have B1 : Hid (Below w.heap.size w w1) := HB0.out.trans (hb1.mono HB0.out.size)
    clear hb1 HX0 HB0 KF
    cases ysb with
    | true =>
      have HR : Hid (R = ⟨⟨#[]⟩, ⟨#[]⟩, 0, yid⟩) := by show R = _; rw [HQ.out]; exact HO1.out rfl
      clear HO1 HO2 HQ KO
      generalize hbb : w.heap.size = b at *
      have x0 : w1.cell? ⟨b, 0, none⟩ = some (.string ⟨#[]⟩) := HX1.out.at (i := 0) rfl
      have xf0 : w1.frozen? ⟨b, 0, none⟩ = false := HX1.out.free (i := 0) rfl
      have x1 : w1.cell? ⟨b, 1, none⟩ = some (.string ⟨#[]⟩) := HX1.out.at (i := 1) rfl
      have xf1 : w1.frozen? ⟨b, 1, none⟩ = false := HX1.out.free (i := 1) rfl
      have x2 : w1.cell? ⟨b, 2, none⟩ = some (.int .i64 0) := HX1.out.at (i := 2) rfl
      have xf2 : w1.frozen? ⟨b, 2, none⟩ = false := HX1.out.free (i := 2) rfl
      have x3 : w1.cell? ⟨b, 3, none⟩ = some (.int .i64 0) := HX1.out.at (i := 3) rfl
      have xf3 : w1.frozen? ⟨b, 3, none⟩ = false := HX1.out.free (i := 3) rfl
      have hz : b < w1.heap.size := HX1.out.1
      clear HX1
      go_wp2
      exact bodyPost_ret (v := .agg #[.string ⟨#[]⟩, .string ⟨#[]⟩, .int .i64 0, .int .i64 yid]) (by simp [results, Tryd.results34, go_sem, cell_under9, hz, x0, x1, x2, x3]) rfl ⟨by rw [HR.out], by rw [hbb]; exact Below.alloc (Below.setCell (Below.setCell (Below.setCell (Below.setCell B1.out (Nat.le_refl _) _) (Nat.le_refl _) _) (Nat.le_refl _) _) (Nat.le_refl _) _) (by simp; omega) _⟩
    | false =>
      have HR : Hid (R = ⟨o1, o2, o3, o4⟩) := by show R = _; rw [HQ.out]; exact HO2.out rfl
      clear HO1 HO2 HQ
      go_wp2_with fail
      refine (KO.out _ (B1.out.alloc B1.out.size _)).mono ?_
      rintro e w2 ⟨rfl, hb2⟩
      have HX2 : Hid (BoxV w2 w.heap.size [.string ⟨#[]⟩, .string ⟨#[]⟩, .int .i64 0, .int .i64 0]) := (HX1.out.alloc _).below hb2
      have B2 : Hid (Below w.heap.size w w2) := (B1.out.alloc B1.out.size _).trans (hb2.mono (by simp; exact Nat.le_succ_of_le B1.out.size))
      clear hb2 HX1 B1 KO
      generalize hbb : w.heap.size = b at *
      have x0 : w2.cell? ⟨b, 0, none⟩ = some (.string ⟨#[]⟩) := HX2.out.at (i := 0) rfl
      have xf0 : w2.frozen? ⟨b, 0, none⟩ = false := HX2.out.free (i := 0) rfl
      have x1 : w2.cell? ⟨b, 1, none⟩ = some (.string ⟨#[]⟩) := HX2.out.at (i := 1) rfl
      have xf1 : w2.frozen? ⟨b, 1, none⟩ = false := HX2.out.free (i := 1) rfl
      have x2 : w2.cell? ⟨b, 2, none⟩ = some (.int .i64 0) := HX2.out.at (i := 2) rfl
      have xf2 : w2.frozen? ⟨b, 2, none⟩ = false := HX2.out.free (i := 2) rfl
      have x3 : w2.cell? ⟨b, 3, none⟩ = some (.int .i64 0) := HX2.out.at (i := 3) rfl
      have xf3 : w2.frozen? ⟨b, 3, none⟩ = false := HX2.out.free (i := 3) rfl
      clear HX2
      go_wp2
      exact bodyPost_ret (v := .agg #[.string o1, .string o2, .int .i64 o3, .int .i64 o4]) (by simp [results, Tryd.results34, go_sem, x0, x1, x2, x3]) rfl ⟨by rw [HR.out], by rw [hbb]; exact (Below.setCell (Below.setCell (Below.setCell (Below.setCell B2.out (Nat.le_refl _) _) (Nat.le_refl _) _) (Nat.le_refl _) _) (Nat.le_refl _) _)⟩
end Go.Proofs.YtnpaekjiafaahaaDoor

/- The law FnExactFramesRight, walked. -/
namespace Go.Proofs.YtnpaekjiafaahaaDoor
open Go.RowKit

/-- the texts of frames are no longer than what is asked -/
def szF9 (L : List Fr) : Prop := ∀ i, i < L.length → (atF L i).sc.size + (atF L i).ho.size + (atF L i).pt.size ≤ 1048576
set_option maxRecDepth 10000 in
set_option maxHeartbeats 4000000 in
theorem lawFramesRight_any (a : Option Addr) (cap : Nat) (L : List Fr) (w : World) (hG : MaxI w) (hr : FrRow w a L) (hn : L.length ≤ maxLen) :
    Calls Tryd.prog 3 #[.slice a L.length cap] w fun e w' => e = .returned (.bool true) ∧ Below w.heap.size w w' := by
  have HR : Hid (FrRow w a L) := hr
  have HG : Hid (MaxI w) := hG
  clear hr hG
  go_enter Tryd.func3, Tryd.ntmps3
  go_wp2_with fail
  refine (szFrameS_any a cap L 1048576 _ HR.out hn (by decide) (by decide)).mono ?_
  rintro e w0 ⟨⟨r, rfl, hr⟩, hb0⟩
  have B0 : Hid (Below w.heap.size w w0) := hb0
  clear hb0
  rcases hr with hr | ⟨r0, r1, hl, hf⟩
  · go_wp2
    go_ret
    exact ⟨rfl, B0.out⟩
  have q : decide (r < 0) = false := by rw [decide_eq_false_iff_not]; omega
  have HF : Hid (szF9 L) := hf
  clear hf r0 r1
  go_wp2_with fail
  refine (toFrameS_any a cap L _ (HR.out.below B0.out) hl).mono ?_
  rintro e w1 ⟨v1, rfl, s1, hb1⟩
  have B1 : Hid (Below w.heap.size w w1) := B0.out.trans (hb1.mono B0.out.size)
  have KS : Hid (Calls Tryd.prog 11 #[v1] w1 fun e w' => e = .returned (.bool (framesB L)) ∧ Below w1.heap.size w1 w') := specFrames_any v1 L _ w1 s1 hl
  have KI : Hid (∀ (v : Value) (B : Nat) (W : World), Below w.heap.size w W → SliceF W B v L → Calls Tryd.prog 13 #[v] W fun e w' => e = .returned (.bool (framesB L)) ∧ Below W.heap.size W w') := fun v B W a b => framesRight_any v L B W (HG.out.on a) b hl (fun i hi => by have := HF.out i hi; omega)
  clear s1 hb1 HG HF
  generalize framesB L = d at *
  go_wp2_with fail
  refine KS.out.mono ?_
  rintro e w2 ⟨rfl, hb2⟩
  have B2 : Hid (Below w.heap.size w w2) := B1.out.trans (hb2.mono B1.out.size)
  clear hb2 KS
  go_wp2_with fail
  refine (toFrameS_any a cap L _ (HR.out.below B2.out) hl).mono ?_
  rintro e w4 ⟨v4, rfl, s4, hb4⟩
  have B4 : Hid (Below w.heap.size w w4) := B2.out.trans (hb4.mono B2.out.size)
  have S4 : Hid (SliceF w4 w2.heap.size v4 L) := s4
  clear hb4 s4
  go_wp2_with fail
  refine (KI.out v4 _ w4 B4.out S4.out).mono ?_
  rintro e w5 ⟨rfl, hb5⟩
  have B5 : Hid (Below w.heap.size w w5) := B4.out.trans (hb5.mono B4.out.size)
  have S5 : Hid (SliceF w5 w2.heap.size v4 L) := S4.out.below hb5
  clear hb5
  cases d
  all_goals
    go_wp2_with fail
    refine (toFrameS_any a cap L _ (HR.out.below B5.out) hl).mono ?_
    rintro e w7 ⟨v7, rfl, s7, hb7⟩
    have S7 := S5.out.below hb7
    have B7 : Hid (Below w.heap.size w w7) := B5.out.trans (hb7.mono B5.out.size)
    clear hb7
    go_wp2_with fail
    refine (eqFrameS_any v4 v7 L _ _ _ S7 s7 hl).mono ?_
    rintro e w8 ⟨rfl, hb8⟩
    go_wp2
    go_ret
    exact ⟨rfl, B7.out.trans (hb8.mono B7.out.size)⟩
end Go.Proofs.YtnpaekjiafaahaaDoor

/- The law FnExactFrameOrigin, walked. Written by specorg9.py. -/
namespace Go.Proofs.YtnpaekjiafaahaaDoor
open Go.RowKit

set_option maxRecDepth 10000 in
set_option maxHeartbeats 400000 in
theorem eqOrigin9_same (a b : ByteArray) (c d : Int) (w : World) :
    Calls Tryd.prog 35 #[.agg #[.string a, .string b, .int .i64 c, .int .i64 d], .agg #[.string a, .string b, .int .i64 c, .int .i64 d]] w fun e w' => e = .returned (.bool true) ∧ Below w.heap.size w w' := by
  go_enter Tryd.func35, Tryd.ntmps35
  go_wp2
  go_ret
  exact ⟨rfl, ((Below.refl _ _).alloc (Nat.le_refl _) _).alloc (by simp) _⟩
set_option maxRecDepth 10000 in
set_option maxHeartbeats 4000000 in
theorem lawFrameOrigin_any (a : Option Addr) (cap : Nat) (L : List Fr) (id : Int) (w : World) (hG : MaxI w) (hr : FrRow w a L) (hn : L.length ≤ maxLen) :
    Calls Tryd.prog 8 #[.slice a L.length cap, .int .i64 id] w fun e w' => e = .returned (.bool true) ∧ Below w.heap.size w w' := by
  have HR : Hid (FrRow w a L) := hr
  have HG : Hid (MaxI w) := hG
  clear hr hG
  go_enter Tryd.func8, Tryd.ntmps8
  go_wp2_with fail
  refine (szFrameS_any a cap L 1048576 _ HR.out hn (by decide) (by decide)).mono ?_
  rintro e w0 ⟨⟨r, rfl, hr⟩, hb0⟩
  have B0 : Hid (Below w.heap.size w w0) := hb0
  clear hb0
  rcases hr with hr | ⟨r0, r1, hl, hf⟩
  · go_wp2
    go_ret
    exact ⟨rfl, B0.out⟩
  have q : decide (r < 0) = false := by rw [decide_eq_false_iff_not]; omega
  have HF : Hid (szF9 L) := hf
  clear hf r0 r1
  go_wp2_with fail
  refine (toFrameS_any a cap L _ (HR.out.below B0.out) hl).mono ?_
  rintro e w1 ⟨v1, rfl, s1, hb1⟩
  have B1 : Hid (Below w.heap.size w w1) := B0.out.trans (hb1.mono B0.out.size)
  have KS : Hid (Calls Tryd.prog 33 #[v1, .int .i64 id] w1 fun e w' => e = .returned (ogV (orgF L id)) ∧ Below w1.heap.size w1 w') := specFrameOrigin_any v1 L _ id w1 s1 hl
  have KI : Hid (∀ (v : Value) (B : Nat) (W : World), Below w.heap.size w W → SliceF W B v L → Calls Tryd.prog 34 #[v, .int .i64 id] W fun e w' => e = .returned (ogV (orgF L id)) ∧ Below W.heap.size W w') := fun v B W a b => frameOrigin_any v L B id W (HG.out.on a) b hl (fun i hi => by have := HF.out i hi; omega)
  clear s1 hb1 HG HF
  generalize orgF L id = d at *
  obtain ⟨o1, o2, o3, o4⟩ := d
  unfold ogV at *
  dsimp only at *
  go_wp2_with fail
  refine KS.out.mono ?_
  rintro e w2 ⟨rfl, hb2⟩
  have B2 : Hid (Below w.heap.size w w2) := B1.out.trans (hb2.mono B1.out.size)
  clear hb2 KS B0 B1
  go_wp2_with fail
  refine (toFrameS_any a cap L _ (HR.out.below (B2.out.alloc B2.out.size _)) hl).mono ?_
  rintro e w4 ⟨v4, rfl, s4, hb4⟩
  have B4 : Hid (Below w.heap.size w w4) := (B2.out.alloc B2.out.size _).trans (hb4.mono (B2.out.alloc B2.out.size _).size)
  have HX4 : Hid (BoxV w4 w2.heap.size [.string o1, .string o2, .int .i64 o3, .int .i64 o4]) := (boxV_new w2 [.string o1, .string o2, .int .i64 o3, .int .i64 o4] 51).below hb4
  obtain ⟨Bs, hBs⟩ : ∃ Bs, SliceF w4 Bs v4 L := ⟨_, s4⟩
  have S4 : Hid (SliceF w4 Bs v4 L) := hBs
  clear hb4 s4 hBs
  go_wp2_with fail
  refine (KI.out v4 _ w4 B4.out S4.out).mono ?_
  rintro e w5 ⟨rfl, hb5⟩
  have B5 : Hid (Below w.heap.size w w5) := B4.out.trans (hb5.mono B4.out.size)
  have HX5 : Hid (BoxV w5 w2.heap.size [.string o1, .string o2, .int .i64 o3, .int .i64 o4]) := HX4.out.below hb5
  have S5 : Hid (SliceF w5 Bs v4 L) := S4.out.below hb5
  clear hb5 HX4 S4 B4 KI B2
  have x0 : w5.cell? ⟨w2.heap.size, 0, none⟩ = some (.string o1) := HX5.out.at (i := 0) rfl
  have xf0 : w5.frozen? ⟨w2.heap.size, 0, none⟩ = false := HX5.out.free (i := 0) rfl
  have x1 : w5.cell? ⟨w2.heap.size, 1, none⟩ = some (.string o2) := HX5.out.at (i := 1) rfl
  have xf1 : w5.frozen? ⟨w2.heap.size, 1, none⟩ = false := HX5.out.free (i := 1) rfl
  have x2 : w5.cell? ⟨w2.heap.size, 2, none⟩ = some (.int .i64 o3) := HX5.out.at (i := 2) rfl
  have xf2 : w5.frozen? ⟨w2.heap.size, 2, none⟩ = false := HX5.out.free (i := 2) rfl
  have x3 : w5.cell? ⟨w2.heap.size, 3, none⟩ = some (.int .i64 o4) := HX5.out.at (i := 3) rfl
  have xf3 : w5.frozen? ⟨w2.heap.size, 3, none⟩ = false := HX5.out.free (i := 3) rfl
  have hz : w2.heap.size < w5.heap.size := HX5.out.1
  clear HX5
  go_wp2_with fail
  refine (eqOrigin9_same o1 o2 o3 o4 _).mono ?_
  rintro e w6 ⟨rfl, hb6⟩
  have B6 : Hid (Below w.heap.size w w6) := (B5.out.alloc B5.out.size _).trans (hb6.mono (B5.out.alloc B5.out.size _).size)
  have S6 : Hid (SliceF w6 Bs v4 L) := (S5.out.below ((Below.refl _ _).alloc (Nat.le_refl _) _)).below hb6
  clear hb6 B5 S5
  go_wp2_with fail
  refine (toFrameS_any a cap L _ (HR.out.below B6.out) hl).mono ?_
  rintro e w7 ⟨v7, rfl, s7, hb7⟩
  have S7 := S6.out.below hb7
  have B7 : Hid (Below w.heap.size w w7) := B6.out.trans (hb7.mono B6.out.size)
  clear hb7
  go_wp2_with fail
  refine (eqFrameS_any v4 v7 L _ _ _ S7 s7 hl).mono ?_
  rintro e w8 ⟨rfl, hb8⟩
  go_wp2
  go_ret
  exact ⟨rfl, B7.out.trans (hb8.mono B7.out.size)⟩
end Go.Proofs.YtnpaekjiafaahaaDoor

/- The lifting of a law's walk to a row that lists package-level variables, the world's shape kept; what the shape and the list give a walk. -/
namespace Go.Proofs.YtnpaekjiafaahaaDoor
open Go.RowKit

theorem Ld.own : ownKnob Tryd.prog.godebug = none := by kernel_rfl
theorem Ld.laidOut : laidOutB Tryd.prog = true := by kernel_rfl
set_option maxRecDepth 10000 in
theorem lift_laid {H : Type} {enc : TypeId × Value → H} {os : Os} {f : FuncId} {fn : Func} {s : ChangeSpec} {X : World → Prop} (hX : ∀ (w w' : World), w.heap = w'.heap → X w → X w')
    (started : os.Started) (noInit : Tryd.prog.inits.idxOf? f = none) (hfn : Tryd.prog.funcs[f]? = some fn)
    (start : ∃ (w : World) (tape : Tape) (i : Input), w.os = os ∧ (w.forCall tape i).Shaped Tryd.prog ∧ i.vars = [] ∧ Input.okWide Tryd.prog (w.forCall tape i) .any w.heap.size f i ∧
      ((s.pre enc Tryd.prog fn [] false (w.forCall tape i).memory i.args ∧ X (w.forCall tape i).memory) ∧ sizedMet enc Tryd.prog fn (OpenSpec.ofChange s) false (w.forCall tape i).memory i.args) ∧ Assume.holds {} Tryd.prog (lone (Frame.enter Tryd.prog f i.args .normal) [] (w.forCall tape i)))
    (walk : ∀ (W : World) (base : Nat) (args : Array Value) (ds gs : List (DataW H)) (before : List MemPlace),
      (∀ (j : Nat) t v, fn.params[j]? = some t → args[j]? = some v → Value.okWide Tryd.prog W .any base t v) →
      DataW.Whole enc Tryd.prog fn.params.toList s.vars false W args.toList ds gs before → X W → W.ShapedOpen Tryd.prog →
      Calls Tryd.prog f args W fun e W' => ∃ v, e = .returned v ∧ s.post enc Tryd.prog fn false true false false W args v W') :
    ReturnsInHanded {} Tryd.checked os f .any (fun w args => (s.pre enc Tryd.prog fn [] false w args ∧ X w) ∧ sizedMet enc Tryd.prog fn (OpenSpec.ofChange s) false w args) (s.post enc Tryd.prog fn false true false false) := by
  refine returnsInHanded_of_calls (C := Tryd.checked) Ld.own started noInit start ?_
  intro w tape i _ hsh _ hok hpre _
  obtain ⟨_, _, _, fn2, hfn2, _, _, _, _, hval⟩ := hok
  obtain rfl : fn2 = fn := Option.some.inj (hfn2.symm.trans hfn)
  obtain ⟨⟨⟨ds, gs, before, hw, _⟩, hx⟩, _⟩ := hpre
  have hw2 := DataW.Whole.of_heap (w' := w.forCall tape i) (by rfl) hw
  refine (walk (w.forCall tape i) w.heap.size i.args ds gs before hval hw2 (hX _ _ (by rfl) hx) hsh).mono fun e W' ⟨v, he, hp⟩ => ?_
  subst he
  exact ChangeSpec.post_blind hp
set_option maxRecDepth 10000 in
theorem maxI_of_shape {W : World} (h : W.ShapedOpen Tryd.prog) : MaxI W := Tryd.lays146.s1_3 W h
end Go.Proofs.YtnpaekjiafaahaaDoor
