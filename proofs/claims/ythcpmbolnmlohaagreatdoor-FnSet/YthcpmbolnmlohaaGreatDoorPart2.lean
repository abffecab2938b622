/- 8 of this claim's texts, one behind the other. -/
import Derived.Test.YthcpmbolnmlohaaGreatDoorPart1
/- The walk of the specification's l04Read. -/
namespace Go.Proofs.YthcpmbolnmlohaaGreatDoor
open Go.RowKit

/-- a SetCookie's eight fields -/
structure SC where
  na : ByteArray
  va : ByteArray
  dm : ByteArray
  pa : ByteArray
  ag : Int
  se : Bool
  mo : Int
  pt : Bool
def tDomain : List UInt8 := [68, 111, 109, 97, 105, 110]
def tPath : List UInt8 := [80, 97, 116, 104]
def tAge : List UInt8 := [77, 97, 120, 45, 65, 103, 101]
def tSecure : List UInt8 := [83, 101, 99, 117, 114, 101]
def tParted : List UInt8 := [80, 97, 114, 116, 105, 116, 105, 111, 110, 101, 100]
def tSame : List UInt8 := [83, 97, 109, 101, 83, 105, 116, 101]
def tStrict : List UInt8 := [83, 116, 114, 105, 99, 116]
/-- what a piece turns -/
def scPut (c : SC) (x : ByteArray) : SC :=
  if ((pairP x).1.toList == tDomain) = true then { c with dm := (pairP x).2 }
  else if ((pairP x).1.toList == tPath) = true then { c with pa := (pairP x).2 }
  else if ((pairP x).1.toList == tAge) = true then { c with ag := numI (pairP x).2 }
  else if ((pairP x).1.toList == tSecure) = true then { c with se := true }
  else if ((pairP x).1.toList == tParted) = true then { c with pt := true }
  else if ((pairP x).1.toList == tSame) = true then { c with mo := if ((pairP x).2.toList == tStrict) = true then 1 else 2 }
  else c
/-- the pieces from the second one to the i-th turn one after another -/
def scTo (L : List ByteArray) : Nat → SC
  | 0 => ⟨(pairP (atL L 0)).1, (pairP (atL L 0)).2, ⟨#[]⟩, ⟨#[]⟩, -1, false, 0, false⟩
  | i + 1 => scPut (scTo L i) (atL L (i + 1))
def scRead (t : ByteArray) : SC := scTo (piecesL t) ((piecesL t).length - 1)
def scV (c : SC) : Value := setV c.na c.va c.dm c.pa c.ag c.se c.mo c.pt
/-- eight cells in block b, none of them frozen -/
def U8 (w : World) (b : Nat) (v0 v1 v2 v3 v4 v5 v6 v7 : Value) : Prop := b < w.heap.size ∧ (w.cell? ⟨b, 0, none⟩ = some v0 ∧ w.cell? ⟨b, 1, none⟩ = some v1 ∧ w.cell? ⟨b, 2, none⟩ = some v2 ∧ w.cell? ⟨b, 3, none⟩ = some v3 ∧ w.cell? ⟨b, 4, none⟩ = some v4 ∧ w.cell? ⟨b, 5, none⟩ = some v5 ∧ w.cell? ⟨b, 6, none⟩ = some v6 ∧ w.cell? ⟨b, 7, none⟩ = some v7) ∧ ∀ o, w.frozen? ⟨b, o, none⟩ = false
theorem U8.below {w w' : World} {b : Nat} {v0 v1 v2 v3 v4 v5 v6 v7 : Value} (h : U8 w b v0 v1 v2 v3 v4 v5 v6 v7) (hb : Below w.heap.size w w') : U8 w' b v0 v1 v2 v3 v4 v5 v6 v7 := by
  obtain ⟨hz, ⟨c0, c1, c2, c3, c4, c5, c6, c7⟩, hf⟩ := h
  exact ⟨Nat.lt_of_lt_of_le hz hb.size, ⟨by rw [(bcell hb).1 _ _ hz]; exact c0, by rw [(bcell hb).1 _ _ hz]; exact c1, by rw [(bcell hb).1 _ _ hz]; exact c2, by rw [(bcell hb).1 _ _ hz]; exact c3, by rw [(bcell hb).1 _ _ hz]; exact c4, by rw [(bcell hb).1 _ _ hz]; exact c5, by rw [(bcell hb).1 _ _ hz]; exact c6, by rw [(bcell hb).1 _ _ hz]; exact c7⟩, fun o => by rw [(bcell hb).2 _ _ hz]; exact hf o⟩
theorem U8.made (w : World) (v0 v1 v2 v3 v4 v5 v6 v7 : Value) (t : TypeId) : U8 (w.alloc (.cells #[v0, v1, v2, v3, v4, v5, v6, v7] t)) w.heap.size v0 v1 v2 v3 v4 v5 v6 v7 :=
  ⟨by simp, ⟨by simp, by simp, by simp, by simp, by simp, by simp, by simp, by simp⟩, by simp⟩
theorem U8.far {w : World} {b : Nat} {v0 v1 v2 v3 v4 v5 v6 v7 : Value} {p : Addr} (h : U8 w b v0 v1 v2 v3 v4 v5 v6 v7) (hp : p.block ≠ b) (v : Value) : U8 (w.setCell p v) b v0 v1 v2 v3 v4 v5 v6 v7 := by
  obtain ⟨hb, ⟨c0, c1, c2, c3, c4, c5, c6, c7⟩, hf⟩ := h
  refine ⟨by simpa [World.setCell] using hb, ⟨?_, ?_, ?_, ?_, ?_, ?_, ?_, ?_⟩, ?_⟩
  · rw [World.cell?_setCell_far _ _ _ _ hp]; exact c0
  · rw [World.cell?_setCell_far _ _ _ _ hp]; exact c1
  · rw [World.cell?_setCell_far _ _ _ _ hp]; exact c2
  · rw [World.cell?_setCell_far _ _ _ _ hp]; exact c3
  · rw [World.cell?_setCell_far _ _ _ _ hp]; exact c4
  · rw [World.cell?_setCell_far _ _ _ _ hp]; exact c5
  · rw [World.cell?_setCell_far _ _ _ _ hp]; exact c6
  · rw [World.cell?_setCell_far _ _ _ _ hp]; exact c7
  · intro o; rw [World.frozen?_setCell]; exact hf o
theorem U8.set0 {w : World} {b : Nat} {v0 v1 v2 v3 v4 v5 v6 v7 : Value} (h : U8 w b v0 v1 v2 v3 v4 v5 v6 v7) (v : Value) : U8 (w.setCell ⟨b, 0, none⟩ v) b v v1 v2 v3 v4 v5 v6 v7 := by
  obtain ⟨hb, ⟨c0, c1, c2, c3, c4, c5, c6, c7⟩, hf⟩ := h
  refine ⟨by simpa [World.setCell] using hb, ⟨?_, ?_, ?_, ?_, ?_, ?_, ?_, ?_⟩, ?_⟩
  · exact World.cell?_setCell_same _ _ _ c0
  · exact (World.cell?_setCell_other _ _ _ _ (by simp)).trans c1
  · exact (World.cell?_setCell_other _ _ _ _ (by simp)).trans c2
  · exact (World.cell?_setCell_other _ _ _ _ (by simp)).trans c3
  · exact (World.cell?_setCell_other _ _ _ _ (by simp)).trans c4
  · exact (World.cell?_setCell_other _ _ _ _ (by simp)).trans c5
  · exact (World.cell?_setCell_other _ _ _ _ (by simp)).trans c6
  · exact (World.cell?_setCell_other _ _ _ _ (by simp)).trans c7
  · intro o; rw [World.frozen?_setCell]; exact hf o
theorem U8.set1 {w : World} {b : Nat} {v0 v1 v2 v3 v4 v5 v6 v7 : Value} (h : U8 w b v0 v1 v2 v3 v4 v5 v6 v7) (v : Value) : U8 (w.setCell ⟨b, 1, none⟩ v) b v0 v v2 v3 v4 v5 v6 v7 := by
  obtain ⟨hb, ⟨c0, c1, c2, c3, c4, c5, c6, c7⟩, hf⟩ := h
  refine ⟨by simpa [World.setCell] using hb, ⟨?_, ?_, ?_, ?_, ?_, ?_, ?_, ?_⟩, ?_⟩
  · exact (World.cell?_setCell_other _ _ _ _ (by simp)).trans c0
  · exact World.cell?_setCell_same _ _ _ c1
  · exact (World.cell?_setCell_other _ _ _ _ (by simp)).trans c2
  · exact (World.cell?_setCell_other _ _ _ _ (by simp)).trans c3
  · exact (World.cell?_setCell_other _ _ _ _ (by simp)).trans c4
  · exact (World.cell?_setCell_other _ _ _ _ (by simp)).trans c5
  · exact (World.cell?_setCell_other _ _ _ _ (by simp)).trans c6
  · exact (World.cell?_setCell_other _ _ _ _ (by simp)).trans c7
  · intro o; rw [World.frozen?_setCell]; exact hf o
theorem U8.set2 {w : World} {b : Nat} {v0 v1 v2 v3 v4 v5 v6 v7 : Value} (h : U8 w b v0 v1 v2 v3 v4 v5 v6 v7) (v : Value) : U8 (w.setCell ⟨b, 2, none⟩ v) b v0 v1 v v3 v4 v5 v6 v7 := by
  obtain ⟨hb, ⟨c0, c1, c2, c3, c4, c5, c6, c7⟩, hf⟩ := h
  refine ⟨by simpa [World.setCell] using hb, ⟨?_, ?_, ?_, ?_, ?_, ?_, ?_, ?_⟩, ?_⟩
  · exact (World.cell?_setCell_other _ _ _ _ (by simp)).trans c0
  · exact (World.cell?_setCell_other _ _ _ _ (by simp)).trans c1
  · exact World.cell?_setCell_same _ _ _ c2
  · exact (World.cell?_setCell_other _ _ _ _ (by simp)).trans c3
  · exact (World.cell?_setCell_other _ _ _ _ (by simp)).trans c4
  · exact (World.cell?_setCell_other _ _ _ _ (by simp)).trans c5
  · exact (World.cell?_setCell_other _ _ _ _ (by simp)).trans c6
  · exact (World.cell?_setCell_other _ _ _ _ (by simp)).trans c7
  · intro o; rw [World.frozen?_setCell]; exact hf o
theorem U8.set3 {w : World} {b : Nat} {v0 v1 v2 v3 v4 v5 v6 v7 : Value} (h : U8 w b v0 v1 v2 v3 v4 v5 v6 v7) (v : Value) : U8 (w.setCell ⟨b, 3, none⟩ v) b v0 v1 v2 v v4 v5 v6 v7 := by
  obtain ⟨hb, ⟨c0, c1, c2, c3, c4, c5, c6, c7⟩, hf⟩ := h
  refine ⟨by simpa [World.setCell] using hb, ⟨?_, ?_, ?_, ?_, ?_, ?_, ?_, ?_⟩, ?_⟩
  · exact (World.cell?_setCell_other _ _ _ _ (by simp)).trans c0
  · exact (World.cell?_setCell_other _ _ _ _ (by simp)).trans c1
  · exact (World.cell?_setCell_other _ _ _ _ (by simp)).trans c2
  · exact World.cell?_setCell_same _ _ _ c3
  · exact (World.cell?_setCell_other _ _ _ _ (by simp)).trans c4
  · exact (World.cell?_setCell_other _ _ _ _ (by simp)).trans c5
  · exact (World.cell?_setCell_other _ _ _ _ (by simp)).trans c6
  · exact (World.cell?_setCell_other _ _ _ _ (by simp)).trans c7
  · intro o; rw [World.frozen?_setCell]; exact hf o
theorem U8.set4 {w : World} {b : Nat} {v0 v1 v2 v3 v4 v5 v6 v7 : Value} (h : U8 w b v0 v1 v2 v3 v4 v5 v6 v7) (v : Value) : U8 (w.setCell ⟨b, 4, none⟩ v) b v0 v1 v2 v3 v v5 v6 v7 := by
  obtain ⟨hb, ⟨c0, c1, c2, c3, c4, c5, c6, c7⟩, hf⟩ := h
  refine ⟨by simpa [World.setCell] using hb, ⟨?_, ?_, ?_, ?_, ?_, ?_, ?_, ?_⟩, ?_⟩
  · exact (World.cell?_setCell_other _ _ _ _ (by simp)).trans c0
  · exact (World.cell?_setCell_other _ _ _ _ (by simp)).trans c1
  · exact (World.cell?_setCell_other _ _ _ _ (by simp)).trans c2
  · exact (World.cell?_setCell_other _ _ _ _ (by simp)).trans c3
  · exact World.cell?_setCell_same _ _ _ c4
  · exact (World.cell?_setCell_other _ _ _ _ (by simp)).trans c5
  · exact (World.cell?_setCell_other _ _ _ _ (by simp)).trans c6
  · exact (World.cell?_setCell_other _ _ _ _ (by simp)).trans c7
  · intro o; rw [World.frozen?_setCell]; exact hf o
theorem U8.set5 {w : World} {b : Nat} {v0 v1 v2 v3 v4 v5 v6 v7 : Value} (h : U8 w b v0 v1 v2 v3 v4 v5 v6 v7) (v : Value) : U8 (w.setCell ⟨b, 5, none⟩ v) b v0 v1 v2 v3 v4 v v6 v7 := by
  obtain ⟨hb, ⟨c0, c1, c2, c3, c4, c5, c6, c7⟩, hf⟩ := h
  refine ⟨by simpa [World.setCell] using hb, ⟨?_, ?_, ?_, ?_, ?_, ?_, ?_, ?_⟩, ?_⟩
  · exact (World.cell?_setCell_other _ _ _ _ (by simp)).trans c0
  · exact (World.cell?_setCell_other _ _ _ _ (by simp)).trans c1
  · exact (World.cell?_setCell_other _ _ _ _ (by simp)).trans c2
  · exact (World.cell?_setCell_other _ _ _ _ (by simp)).trans c3
  · exact (World.cell?_setCell_other _ _ _ _ (by simp)).trans c4
  · exact World.cell?_setCell_same _ _ _ c5
  · exact (World.cell?_setCell_other _ _ _ _ (by simp)).trans c6
  · exact (World.cell?_setCell_other _ _ _ _ (by simp)).trans c7
  · intro o; rw [World.frozen?_setCell]; exact hf o
theorem U8.set6 {w : World} {b : Nat} {v0 v1 v2 v3 v4 v5 v6 v7 : Value} (h : U8 w b v0 v1 v2 v3 v4 v5 v6 v7) (v : Value) : U8 (w.setCell ⟨b, 6, none⟩ v) b v0 v1 v2 v3 v4 v5 v v7 := by
  obtain ⟨hb, ⟨c0, c1, c2, c3, c4, c5, c6, c7⟩, hf⟩ := h
  refine ⟨by simpa [World.setCell] using hb, ⟨?_, ?_, ?_, ?_, ?_, ?_, ?_, ?_⟩, ?_⟩
  · exact (World.cell?_setCell_other _ _ _ _ (by simp)).trans c0
  · exact (World.cell?_setCell_other _ _ _ _ (by simp)).trans c1
  · exact (World.cell?_setCell_other _ _ _ _ (by simp)).trans c2
  · exact (World.cell?_setCell_other _ _ _ _ (by simp)).trans c3
  · exact (World.cell?_setCell_other _ _ _ _ (by simp)).trans c4
  · exact (World.cell?_setCell_other _ _ _ _ (by simp)).trans c5
  · exact World.cell?_setCell_same _ _ _ c6
  · exact (World.cell?_setCell_other _ _ _ _ (by simp)).trans c7
  · intro o; rw [World.frozen?_setCell]; exact hf o
theorem U8.set7 {w : World} {b : Nat} {v0 v1 v2 v3 v4 v5 v6 v7 : Value} (h : U8 w b v0 v1 v2 v3 v4 v5 v6 v7) (v : Value) : U8 (w.setCell ⟨b, 7, none⟩ v) b v0 v1 v2 v3 v4 v5 v6 v := by
  obtain ⟨hb, ⟨c0, c1, c2, c3, c4, c5, c6, c7⟩, hf⟩ := h
  refine ⟨by simpa [World.setCell] using hb, ⟨?_, ?_, ?_, ?_, ?_, ?_, ?_, ?_⟩, ?_⟩
  · exact (World.cell?_setCell_other _ _ _ _ (by simp)).trans c0
  · exact (World.cell?_setCell_other _ _ _ _ (by simp)).trans c1
  · exact (World.cell?_setCell_other _ _ _ _ (by simp)).trans c2
  · exact (World.cell?_setCell_other _ _ _ _ (by simp)).trans c3
  · exact (World.cell?_setCell_other _ _ _ _ (by simp)).trans c4
  · exact (World.cell?_setCell_other _ _ _ _ (by simp)).trans c5
  · exact (World.cell?_setCell_other _ _ _ _ (by simp)).trans c6
  · exact World.cell?_setCell_same _ _ _ c7
  · intro o; rw [World.frozen?_setCell]; exact hf o
def UC (w : World) (b : Nat) (c : SC) : Prop := U8 w b (.string c.na) (.string c.va) (.string c.dm) (.string c.pa) (.int .i64 c.ag) (.bool c.se) (.int .i64 c.mo) (.bool c.pt)
theorem UC.below {w w' : World} {b : Nat} {c : SC} (h : UC w b c) (hb : Below w.heap.size w w') : UC w' b c := U8.below h hb
set_option maxRecDepth 10000 in
set_option maxHeartbeats 8000000 in
theorem specSetRd_any (t : ByteArray) (w : World) (ht : t.size ≤ 8000) :
    Calls Tryz.prog 40 #[.string t] w fun e w' => e = .returned (scV (scRead t)) ∧ Below w.heap.size w w' := by
  have KP : Hid (∀ W, Calls Tryz.prog 48 #[.string t] W fun e w' => ∃ v, e = .returned v ∧ w'.ownsRow W.heap.size 9 1 v (piecesL t).length (strCells (piecesL t)) ∧ Below W.heap.size W w') := fun W => specPieces_any t W (by omega)
  have hlen := piecesL_len t
  have hsm := piecesL_small t
  have hpos : 0 < (piecesL t).length := by
    by_cases h : 0 ≤ findI t semi
    · rw [piecesL_more (find_in h).2]; simp
    · rw [piecesL_last h]; simp
  have HSM : Hid (∀ i, i < (piecesL t).length → (atL (piecesL t) i).size ≤ 8000) := fun i hi => by
    have e : atL (piecesL t) i = (piecesL t)[i] := by simp [atL, hi]
    rw [e]; have := hsm _ (List.getElem_mem hi); omega
  have HE : Hid (scRead t = scTo (piecesL t) ((piecesL t).length - 1)) := rfl
  clear hsm
  generalize scRead t = RR at *
  generalize piecesL t = L at *
  have hL : L.length ≤ 8001 := by omega
  clear hlen
  go_enter Tryz.func40, Tryz.ntmps40
  go_wp2_with fail
  refine (KP.out _).mono ?_
  rintro e w1 ⟨vL, rfl, ho, hb1⟩
  have RZ1 : Hid (U8 w1 w.heap.size (.string ⟨#[]⟩) (.string ⟨#[]⟩) (.string ⟨#[]⟩) (.string ⟨#[]⟩) (.int .i64 0) (.bool false) (.int .i64 0) (.bool false)) := (U8.made w (.string ⟨#[]⟩) (.string ⟨#[]⟩) (.string ⟨#[]⟩) (.string ⟨#[]⟩) (.int .i64 0) (.bool false) (.int .i64 0) (.bool false) 24).below hb1
  have B1 : Hid (Below w.heap.size w w1) := ((Below.refl _ _).alloc (Nat.le_refl _) _).trans (hb1.mono (by simp))
  have SL1 : Hid (SliceS w1 0 vL L.length (atL L)) := by
    obtain ⟨p, cap, e, h⟩ := slice_of_own ho
    exact (⟨p, cap, e, fun hn => by obtain ⟨g, e, _, r⟩ := h hn; exact ⟨g, e, Nat.zero_le _, r⟩⟩ : SliceS w1 0 vL L.length (atL L))
  clear ho hb1 KP
  obtain ⟨pL, cL, rfl, hg⟩ := SL1.out
  obtain ⟨g, rfl, -, hgw, hc⟩ := hg hpos
  have hc0 := (hc 0 hpos).1
  have HC : Hid (∀ j, j < L.length → w1.cell? ⟨g, j, none⟩ = some (.string (atL L j))) := fun j hj => (hc j hj).1
  have lp : (0 : Int) < (L.length : Int) := by omega
  have KQ : Hid (∀ (j : Nat) (W : World), j < L.length → Calls Tryz.prog 49 #[.string (atL L j)] W fun e w' => e = .returned (.agg #[.string (pairP (atL L j)).1, .string (pairP (atL L j)).2]) ∧ Below W.heap.size W w') := fun j W hj => specPair_any (atL L j) W (by have := HSM.out j hj; omega)
  clear hg hc SL1
  have HT0 : Hid (scTo L 0 = ⟨(pairP (atL L 0)).1, (pairP (atL L 0)).2, ⟨#[]⟩, ⟨#[]⟩, -1, false, 0, false⟩) := rfl
  go_wp2_with fail
  refine (KQ.out 0 _ hpos).mono ?_
  rintro e w2 ⟨rfl, hb2⟩
  have RZ2 : Hid (U8 w2 w.heap.size (.string ⟨#[]⟩) (.string ⟨#[]⟩) (.string ⟨#[]⟩) (.string ⟨#[]⟩) (.int .i64 0) (.bool false) (.int .i64 0) (.bool false)) := RZ1.out.below hb2
  have B2 : Hid (Below w.heap.size w w2) := B1.out.trans (hb2.mono B1.out.size)
  have HC2 : Hid (∀ j, j < L.length → w2.cell? ⟨g, j, none⟩ = some (.string (atL L j))) := fun j hj => by rw [(bcell hb2).1 _ _ hgw]; exact HC.out j hj
  have hgw2 : g < w2.heap.size := Nat.lt_of_lt_of_le hgw hb2.size
  clear hb2 HC RZ1 B1 hc0
  generalize (pairP (atL L 0)).1 = n0 at *
  generalize (pairP (atL L 0)).2 = v0 at *
  have z0 : w.heap.size < w2.heap.size := RZ2.out.1
  go_wp2
  have UC0 : Hid (UC ((w2.alloc (.cells #[.string n0, .string v0] 46)).alloc (.cells #[.string n0, .string v0, .string ⟨#[]⟩, .string ⟨#[]⟩, .int .i64 (-1), .bool false, .int .i64 0, .bool false] 24)) (w2.heap.size + 1) (scTo L 0)) := by
    show UC _ _ _
    rw [HT0.out]
    have h := U8.made (w2.alloc (.cells #[.string n0, .string v0] 46)) (.string n0) (.string v0) (.string ⟨#[]⟩) (.string ⟨#[]⟩) (.int .i64 (-1)) (.bool false) (.int .i64 0) (.bool false) 24
    have e : (w2.alloc (.cells #[.string n0, .string v0] 46)).heap.size = w2.heap.size + 1 := by simp
    rw [e] at h
    exact h
  have BB : Hid (∀ o o', Below w2.heap.size w2 ((w2.alloc o).alloc o')) := fun o o' => ((Below.refl _ _).alloc (Nat.le_refl _) _).alloc (by simp) _
  have RZ3 : Hid (U8 ((w2.alloc (.cells #[.string n0, .string v0] 46)).alloc (.cells #[.string n0, .string v0, .string ⟨#[]⟩, .string ⟨#[]⟩, .int .i64 (-1), .bool false, .int .i64 0, .bool false] 24)) w.heap.size (.string ⟨#[]⟩) (.string ⟨#[]⟩) (.string ⟨#[]⟩) (.string ⟨#[]⟩) (.int .i64 0) (.bool false) (.int .i64 0) (.bool false)) := RZ2.out.below (BB.out _ _)
  have HC3 : Hid (∀ j, j < L.length → ((w2.alloc (.cells #[.string n0, .string v0] 46)).alloc (.cells #[.string n0, .string v0, .string ⟨#[]⟩, .string ⟨#[]⟩, .int .i64 (-1), .bool false, .int .i64 0, .bool false] 24)).cell? ⟨g, j, none⟩ = some (.string (atL L j))) := fun j hj => by rw [(bcell (BB.out _ _)).1 _ _ hgw2]; exact HC2.out j hj
  have B3 : Hid (Below w.heap.size w ((w2.alloc (.cells #[.string n0, .string v0] 46)).alloc (.cells #[.string n0, .string v0, .string ⟨#[]⟩, .string ⟨#[]⟩, .int .i64 (-1), .bool false, .int .i64 0, .bool false] 24))) := B2.out.trans ((BB.out _ _).mono B2.out.size)
  have z3 : w2.heap.size + 2 ≤ ((w2.alloc (.cells #[.string n0, .string v0] 46)).alloc (.cells #[.string n0, .string v0, .string ⟨#[]⟩, .string ⟨#[]⟩, .int .i64 (-1), .bool false, .int .i64 0, .bool false] 24)).heap.size := by simp
  clear RZ2 HC2 B2 BB HT0
  generalize ((w2.alloc (.cells #[.string n0, .string v0] 46)).alloc (.cells #[.string n0, .string v0, .string ⟨#[]⟩, .string ⟨#[]⟩, .int .i64 (-1), .bool false, .int .i64 0, .bool false] 24)) = ws at *
  go_loopw [6, 7] (fun i _ wr => ∃ k : Nat, k + 1 ≤ L.length ∧ i = .int .i64 ((k : Int) + 1) ∧ w2.heap.size + 2 ≤ wr.heap.size ∧ Hid (UC wr (w2.heap.size + 1) (scTo L k)) ∧ Hid (∀ j, j < L.length → wr.cell? ⟨g, j, none⟩ = some (.string (atL L j))) ∧ Hid (U8 wr w.heap.size (.string ⟨#[]⟩) (.string ⟨#[]⟩) (.string ⟨#[]⟩) (.string ⟨#[]⟩) (.int .i64 0) (.bool false) (.int .i64 0) (.bool false)) ∧ Hid (Below w.heap.size w wr)) (fun i _ _ => L.length - (intOf i).toNat)
  case atStart => exact ⟨0, by omega, rfl, z3, UC0, HC3, RZ3, B3⟩
  case round =>
    obtain ⟨k, hk, rfl, hz, HU, HCr, HZ, HB⟩ := hrel
    by_cases hlt : k + 1 < L.length
    · have hck := HCr.out (k + 1) hlt
      have k0 : (0 : Int) ≤ (k : Int) + 1 := by omega
      have k1 : (k : Int) + 1 < L.length := by omega
      have KQ1 : Hid (Calls Tryz.prog 49 #[.string (atL L (k + 1))] wr fun e w' => e = .returned (.agg #[.string (pairP (atL L (k + 1))).1, .string (pairP (atL L (k + 1))).2]) ∧ Below wr.heap.size wr w') := KQ.out (k + 1) wr hlt
      have KN : Hid (∀ W, Calls Tryz.prog 61 #[.string (pairP (atL L (k + 1))).2] W fun e w' => e = .returned (.int .i64 (numI (pairP (atL L (k + 1))).2)) ∧ w' = W) := fun W => specNum_any _ W
      have HN : Hid (scTo L (k + 1) = scPut (scTo L k) (atL L (k + 1))) := rfl
      unfold scPut at HN
      generalize pairP (atL L (k + 1)) = pp at *
      obtain ⟨n1, v1⟩ := pp
      have HN1 : Hid (scTo L (k + 1) = if (n1.toList == tDomain) = true then { scTo L k with dm := v1 } else if (n1.toList == tPath) = true then { scTo L k with pa := v1 } else if (n1.toList == tAge) = true then { scTo L k with ag := numI v1 } else if (n1.toList == tSecure) = true then { scTo L k with se := true } else if (n1.toList == tParted) = true then { scTo L k with pt := true } else if (n1.toList == tSame) = true then { scTo L k with mo := if (v1.toList == tStrict) = true then 1 else 2 } else scTo L k) := HN.out
      have KN1 : Hid (∀ W, Calls Tryz.prog 61 #[.string v1] W fun e w' => e = .returned (.int .i64 (numI v1)) ∧ w' = W) := KN.out
      have KQ2 : Hid (Calls Tryz.prog 49 #[.string (atL L (k + 1))] wr fun e w' => e = .returned (.agg #[.string n1, .string v1]) ∧ Below wr.heap.size wr w') := KQ1.out
      clear HN KN KQ1
      generalize scTo L k = c at *
      generalize numI v1 = nv at *
      generalize atL L (k + 1) = x at *
      go_wp2_with fail
      refine KQ2.out.mono ?_
      rintro e w3 ⟨rfl, hb3⟩
      have hg3 : g < wr.heap.size := by omega
      have BA : Hid (∀ o, Below wr.heap.size wr (w3.alloc o)) := fun o => hb3.alloc hb3.size _
      have z3' : wr.heap.size ≤ w3.heap.size := hb3.size
      have U3 : Hid (UC w3 (w2.heap.size + 1) c) := HU.out.below hb3
      have Z3 : Hid (U8 w3 w.heap.size (.string ⟨#[]⟩) (.string ⟨#[]⟩) (.string ⟨#[]⟩) (.string ⟨#[]⟩) (.int .i64 0) (.bool false) (.int .i64 0) (.bool false)) := HZ.out.below hb3
      have C3 : Hid (∀ j, j < L.length → w3.cell? ⟨g, j, none⟩ = some (.string (atL L j))) := fun j hj => by rw [(bcell hb3).1 _ _ hg3]; exact HCr.out j hj
      have B4 : Hid (Below w.heap.size w w3) := HB.out.trans (hb3.mono HB.out.size)
      have hg4 : g < w3.heap.size := by omega
      have NW : Hid (∀ (W : World) o, Below W.heap.size W (W.alloc o)) := fun W o => (Below.refl _ _).alloc (Nat.le_refl _) _
      obtain ⟨-, ⟨d0, d1, d2, d3, d4, d5, d6, d7⟩, df⟩ := HU.out.below hb3
      have zb : w2.heap.size + 1 < w3.heap.size := by omega
      clear hb3 hck
      cases e0 : (n1.toList == tDomain) with
      | true =>
        have f0 : (n1.toList == [68, 111, 109, 97, 105, 110]) = true := e0
        have HX : Hid (scTo L (k + 1) = { c with dm := v1 }) := by show _ = _; rw [HN1.out, if_pos e0]
        go_wp2_with fail
        go_roundw
        case rel =>
          refine ⟨k + 1, by omega, by go_num, by simp [World.setCell]; omega, ?_, ?_, ?_, ?_⟩
          · show UC _ _ _
            rw [HX.out]
            exact U8.below (U8.set2 U3.out (.string v1)) (NW.out _ _)
          · intro j hj
            rw [(bcell (NW.out _ _)).1 _ _ (by simpa [World.setCell] using hg4)]
            exact (World.cell?_setCell_far _ _ _ _ (by show ¬ w2.heap.size + 1 = g; omega)).trans (C3.out j hj)
          · exact U8.below (U8.far Z3.out (p := ⟨w2.heap.size + 1, 2, none⟩) (by show ¬ w2.heap.size + 1 = w.heap.size; omega) (.string v1)) (NW.out _ _)
          · exact Below.trans (Below.setCell B4.out (p := ⟨w2.heap.size + 1, 2, none⟩) (by show w.heap.size ≤ w2.heap.size + 1; omega) (.string v1)) ((NW.out _ _).mono (by have := B4.out.size; simp [World.setCell]; omega))
        case measure => simp [intOf]; omega
      | false =>
        have f0 : (n1.toList == [68, 111, 109, 97, 105, 110]) = false := e0
        cases e1 : (n1.toList == tPath) with
        | true =>
          have f1 : (n1.toList == [80, 97, 116, 104]) = true := e1
          have f0 : (n1.toList == [68, 111, 109, 97, 105, 110]) = false := e0
          have HX : Hid (scTo L (k + 1) = { c with pa := v1 }) := by show _ = _; rw [HN1.out, if_neg (by rw [e0]; decide), if_pos e1]
          go_wp2_with fail
          go_roundw
          case rel =>
            refine ⟨k + 1, by omega, by go_num, by simp [World.setCell]; omega, ?_, ?_, ?_, ?_⟩
            · show UC _ _ _
              rw [HX.out]
              exact U8.below (U8.set3 U3.out (.string v1)) (NW.out _ _)
            · intro j hj
              rw [(bcell (NW.out _ _)).1 _ _ (by simpa [World.setCell] using hg4)]
              exact (World.cell?_setCell_far _ _ _ _ (by show ¬ w2.heap.size + 1 = g; omega)).trans (C3.out j hj)
            · exact U8.below (U8.far Z3.out (p := ⟨w2.heap.size + 1, 3, none⟩) (by show ¬ w2.heap.size + 1 = w.heap.size; omega) (.string v1)) (NW.out _ _)
            · exact Below.trans (Below.setCell B4.out (p := ⟨w2.heap.size + 1, 3, none⟩) (by show w.heap.size ≤ w2.heap.size + 1; omega) (.string v1)) ((NW.out _ _).mono (by have := B4.out.size; simp [World.setCell]; omega))
          case measure => simp [intOf]; omega
        | false =>
          have f1 : (n1.toList == [80, 97, 116, 104]) = false := e1
          cases e2 : (n1.toList == tAge) with
          | true =>
            have f2 : (n1.toList == [77, 97, 120, 45, 65, 103, 101]) = true := e2
            have f0 : (n1.toList == [68, 111, 109, 97, 105, 110]) = false := e0
            have f1 : (n1.toList == [80, 97, 116, 104]) = false := e1
            have HX : Hid (scTo L (k + 1) = { c with ag := nv }) := by show _ = _; rw [HN1.out, if_neg (by rw [e0]; decide), if_neg (by rw [e1]; decide), if_pos e2]
            go_wp2_with (go_at_call 61; refine (KN1.out _).mono ?_; rintro e w4 ⟨rfl, rfl⟩)
            go_roundw
            case rel =>
              refine ⟨k + 1, by omega, by go_num, by simp [World.setCell]; omega, ?_, ?_, ?_, ?_⟩
              · show UC _ _ _
                rw [HX.out]
                exact U8.below (U8.set4 U3.out (.int .i64 nv)) (NW.out _ _)
              · intro j hj
                rw [(bcell (NW.out _ _)).1 _ _ (by simpa [World.setCell] using hg4)]
                exact (World.cell?_setCell_far _ _ _ _ (by show ¬ w2.heap.size + 1 = g; omega)).trans (C3.out j hj)
              · exact U8.below (U8.far Z3.out (p := ⟨w2.heap.size + 1, 4, none⟩) (by show ¬ w2.heap.size + 1 = w.heap.size; omega) (.int .i64 nv)) (NW.out _ _)
              · exact Below.trans (Below.setCell B4.out (p := ⟨w2.heap.size + 1, 4, none⟩) (by show w.heap.size ≤ w2.heap.size + 1; omega) (.int .i64 nv)) ((NW.out _ _).mono (by have := B4.out.size; simp [World.setCell]; omega))
            case measure => simp [intOf]; omega
          | false =>
            have f2 : (n1.toList == [77, 97, 120, 45, 65, 103, 101]) = false := e2
            cases e3 : (n1.toList == tSecure) with
            | true =>
              have f3 : (n1.toList == [83, 101, 99, 117, 114, 101]) = true := e3
              have f0 : (n1.toList == [68, 111, 109, 97, 105, 110]) = false := e0
              have f1 : (n1.toList == [80, 97, 116, 104]) = false := e1
              have f2 : (n1.toList == [77, 97, 120, 45, 65, 103, 101]) = false := e2
              have HX : Hid (scTo L (k + 1) = { c with se := true }) := by show _ = _; rw [HN1.out, if_neg (by rw [e0]; decide), if_neg (by rw [e1]; decide), if_neg (by rw [e2]; decide), if_pos e3]
              go_wp2_with fail
              go_roundw
              case rel =>
                refine ⟨k + 1, by omega, by go_num, by simp [World.setCell]; omega, ?_, ?_, ?_, ?_⟩
                · show UC _ _ _
                  rw [HX.out]
                  exact U8.below (U8.set5 U3.out (.bool true)) (NW.out _ _)
                · intro j hj
                  rw [(bcell (NW.out _ _)).1 _ _ (by simpa [World.setCell] using hg4)]
                  exact (World.cell?_setCell_far _ _ _ _ (by show ¬ w2.heap.size + 1 = g; omega)).trans (C3.out j hj)
                · exact U8.below (U8.far Z3.out (p := ⟨w2.heap.size + 1, 5, none⟩) (by show ¬ w2.heap.size + 1 = w.heap.size; omega) (.bool true)) (NW.out _ _)
                · exact Below.trans (Below.setCell B4.out (p := ⟨w2.heap.size + 1, 5, none⟩) (by show w.heap.size ≤ w2.heap.size + 1; omega) (.bool true)) ((NW.out _ _).mono (by have := B4.out.size; simp [World.setCell]; omega))
              case measure => simp [intOf]; omega
            | false =>
              have f3 : (n1.toList == [83, 101, 99, 117, 114, 101]) = false := e3
              cases e4 : (n1.toList == tParted) with
              | true =>
                have f4 : (n1.toList == [80, 97, 114, 116, 105, 116, 105, 111, 110, 101, 100]) = true := e4
                have f0 : (n1.toList == [68, 111, 109, 97, 105, 110]) = false := e0
                have f1 : (n1.toList == [80, 97, 116, 104]) = false := e1
                have f2 : (n1.toList == [77, 97, 120, 45, 65, 103, 101]) = false := e2
                have f3 : (n1.toList == [83, 101, 99, 117, 114, 101]) = false := e3
                have HX : Hid (scTo L (k + 1) = { c with pt := true }) := by show _ = _; rw [HN1.out, if_neg (by rw [e0]; decide), if_neg (by rw [e1]; decide), if_neg (by rw [e2]; decide), if_neg (by rw [e3]; decide), if_pos e4]
                go_wp2_with fail
                go_roundw
                case rel =>
                  refine ⟨k + 1, by omega, by go_num, by simp [World.setCell]; omega, ?_, ?_, ?_, ?_⟩
                  · show UC _ _ _
                    rw [HX.out]
                    exact U8.below (U8.set7 U3.out (.bool true)) (NW.out _ _)
                  · intro j hj
                    rw [(bcell (NW.out _ _)).1 _ _ (by simpa [World.setCell] using hg4)]
                    exact (World.cell?_setCell_far _ _ _ _ (by show ¬ w2.heap.size + 1 = g; omega)).trans (C3.out j hj)
                  · exact U8.below (U8.far Z3.out (p := ⟨w2.heap.size + 1, 7, none⟩) (by show ¬ w2.heap.size + 1 = w.heap.size; omega) (.bool true)) (NW.out _ _)
                  · exact Below.trans (Below.setCell B4.out (p := ⟨w2.heap.size + 1, 7, none⟩) (by show w.heap.size ≤ w2.heap.size + 1; omega) (.bool true)) ((NW.out _ _).mono (by have := B4.out.size; simp [World.setCell]; omega))
                case measure => simp [intOf]; omega
              | false =>
                have f4 : (n1.toList == [80, 97, 114, 116, 105, 116, 105, 111, 110, 101, 100]) = false := e4
                cases e5 : (n1.toList == tSame) with
                | true =>
                  have f5 : (n1.toList == [83, 97, 109, 101, 83, 105, 116, 101]) = true := e5
                  have f0 : (n1.toList == [68, 111, 109, 97, 105, 110]) = false := e0
                  have f1 : (n1.toList == [80, 97, 116, 104]) = false := e1
                  have f2 : (n1.toList == [77, 97, 120, 45, 65, 103, 101]) = false := e2
                  have f3 : (n1.toList == [83, 101, 99, 117, 114, 101]) = false := e3
                  have f4 : (n1.toList == [80, 97, 114, 116, 105, 116, 105, 111, 110, 101, 100]) = false := e4
                  cases eS : (v1.toList == tStrict) with
                  | true =>
                    have fS : (v1.toList == [83, 116, 114, 105, 99, 116]) = true := eS
                    have HX : Hid (scTo L (k + 1) = { c with mo := 1 }) := by show _ = _; rw [HN1.out, if_neg (by rw [e0]; decide), if_neg (by rw [e1]; decide), if_neg (by rw [e2]; decide), if_neg (by rw [e3]; decide), if_neg (by rw [e4]; decide), if_pos e5, if_pos eS]
                    go_wp2_with fail
                    go_roundw
                    case rel =>
                      refine ⟨k + 1, by omega, by go_num, by simp [World.setCell]; omega, ?_, ?_, ?_, ?_⟩
                      · show UC _ _ _
                        rw [HX.out]
                        exact U8.below (U8.set6 (U8.set6 U3.out (.int .i64 2)) (.int .i64 1)) (NW.out _ _)
                      · intro j hj
                        rw [(bcell (NW.out _ _)).1 _ _ (by simpa [World.setCell] using hg4)]
                        exact (World.cell?_setCell_far _ _ _ _ (by show ¬ w2.heap.size + 1 = g; omega)).trans ((World.cell?_setCell_far _ _ _ _ (by show ¬ w2.heap.size + 1 = g; omega)).trans (C3.out j hj))
                      · exact U8.below (U8.far (U8.far Z3.out (p := ⟨w2.heap.size + 1, 6, none⟩) (by show ¬ w2.heap.size + 1 = w.heap.size; omega) (.int .i64 2)) (p := ⟨w2.heap.size + 1, 6, none⟩) (by show ¬ w2.heap.size + 1 = w.heap.size; omega) (.int .i64 1)) (NW.out _ _)
                      · exact Below.trans (Below.setCell (Below.setCell B4.out (p := ⟨w2.heap.size + 1, 6, none⟩) (by show w.heap.size ≤ w2.heap.size + 1; omega) (.int .i64 2)) (p := ⟨w2.heap.size + 1, 6, none⟩) (by show w.heap.size ≤ w2.heap.size + 1; omega) (.int .i64 1)) ((NW.out _ _).mono (by have := B4.out.size; simp [World.setCell]; omega))
                    case measure => simp [intOf]; omega
                  | false =>
                    have fS : (v1.toList == [83, 116, 114, 105, 99, 116]) = false := eS
                    have HX : Hid (scTo L (k + 1) = { c with mo := 2 }) := by show _ = _; rw [HN1.out, if_neg (by rw [e0]; decide), if_neg (by rw [e1]; decide), if_neg (by rw [e2]; decide), if_neg (by rw [e3]; decide), if_neg (by rw [e4]; decide), if_pos e5, if_neg (by rw [eS]; decide)]
                    go_wp2_with fail
                    go_roundw
                    case rel =>
                      refine ⟨k + 1, by omega, by go_num, by simp [World.setCell]; omega, ?_, ?_, ?_, ?_⟩
                      · show UC _ _ _
                        rw [HX.out]
                        exact U8.below (U8.set6 U3.out (.int .i64 2)) (NW.out _ _)
                      · intro j hj
                        rw [(bcell (NW.out _ _)).1 _ _ (by simpa [World.setCell] using hg4)]
                        exact (World.cell?_setCell_far _ _ _ _ (by show ¬ w2.heap.size + 1 = g; omega)).trans (C3.out j hj)
                      · exact U8.below (U8.far Z3.out (p := ⟨w2.heap.size + 1, 6, none⟩) (by show ¬ w2.heap.size + 1 = w.heap.size; omega) (.int .i64 2)) (NW.out _ _)
                      · exact Below.trans (Below.setCell B4.out (p := ⟨w2.heap.size + 1, 6, none⟩) (by show w.heap.size ≤ w2.heap.size + 1; omega) (.int .i64 2)) ((NW.out _ _).mono (by have := B4.out.size; simp [World.setCell]; omega))
                    case measure => simp [intOf]; omega
                | false =>
                  have f5 : (n1.toList == [83, 97, 109, 101, 83, 105, 116, 101]) = false := e5
                  have HX : Hid (scTo L (k + 1) = c) := by show _ = _; rw [HN1.out, if_neg (by rw [e0]; decide), if_neg (by rw [e1]; decide), if_neg (by rw [e2]; decide), if_neg (by rw [e3]; decide), if_neg (by rw [e4]; decide), if_neg (by rw [e5]; decide)]
                  go_wp2_with fail
                  go_roundw
                  case rel =>
                    refine ⟨k + 1, by omega, by go_num, by simp; omega, ?_, ?_, ?_, ?_⟩
                    · show UC _ _ _
                      rw [HX.out]
                      exact U8.below U3.out (NW.out _ _)
                    · intro j hj
                      rw [(bcell (NW.out _ _)).1 _ _ (by simpa [World.setCell] using hg4)]
                      exact C3.out j hj
                    · exact U8.below Z3.out (NW.out _ _)
                    · exact Below.trans B4.out ((NW.out _ _).mono (by have := B4.out.size; simp; omega))
                  case measure => simp [intOf]; omega
    · have HX : Hid (RR = scTo L k) := by show _ = _; rw [HE.out, show L.length - 1 = k by omega]
      have q9 : ¬ (k : Int) + 1 < L.length := by omega
      obtain ⟨hu, ⟨d0, d1, d2, d3, d4, d5, d6, d7⟩, df⟩ := HU.out
      obtain ⟨hzz, ⟨g0, g1, g2, g3, g4, g5, g6, g7⟩, gf⟩ := HZ.out
      generalize scTo L k = c at *
      go_wp2
      have FR := (U8.set7 (U8.set6 (U8.set5 (U8.set4 (U8.set3 (U8.set2 (U8.set1 (U8.set0 HZ.out (.string c.na)) (.string c.va)) (.string c.dm)) (.string c.pa)) (.int .i64 c.ag)) (.bool c.se)) (.int .i64 c.mo)) (.bool c.pt))
      have FB := (Below.setCell (Below.setCell (Below.setCell (Below.setCell (Below.setCell (Below.setCell (Below.setCell (Below.setCell HB.out (p := ⟨w.heap.size, 0, none⟩) (Nat.le_refl _) (.string c.na)) (p := ⟨w.heap.size, 1, none⟩) (Nat.le_refl _) (.string c.va)) (p := ⟨w.heap.size, 2, none⟩) (Nat.le_refl _) (.string c.dm)) (p := ⟨w.heap.size, 3, none⟩) (Nat.le_refl _) (.string c.pa)) (p := ⟨w.heap.size, 4, none⟩) (Nat.le_refl _) (.int .i64 c.ag)) (p := ⟨w.heap.size, 5, none⟩) (Nat.le_refl _) (.bool c.se)) (p := ⟨w.heap.size, 6, none⟩) (Nat.le_refl _) (.int .i64 c.mo)) (p := ⟨w.heap.size, 7, none⟩) (Nat.le_refl _) (.bool c.pt))
      generalize ((((((((wr.setCell ⟨w.heap.size, 0, none⟩ (.string c.na)).setCell ⟨w.heap.size, 1, none⟩ (.string c.va)).setCell ⟨w.heap.size, 2, none⟩ (.string c.dm)).setCell ⟨w.heap.size, 3, none⟩ (.string c.pa)).setCell ⟨w.heap.size, 4, none⟩ (.int .i64 c.ag)).setCell ⟨w.heap.size, 5, none⟩ (.bool c.se)).setCell ⟨w.heap.size, 6, none⟩ (.int .i64 c.mo)).setCell ⟨w.heap.size, 7, none⟩ (.bool c.pt)) = W at *
      obtain ⟨hy, ⟨f0, f1, f2, f3, f4, f5, f6, f7⟩, _⟩ := FR
      exact bodyPost_ret (v := scV c) (by simp [scV, setV, results, Tryz.results40, go_sem, f0, f1, f2, f3, f4, f5, f6, f7]) rfl ⟨by rw [HX.out], FB⟩
end Go.Proofs.YthcpmbolnmlohaaGreatDoor

/- The walk of the specification's SetRead. -/
namespace Go.Proofs.YthcpmbolnmlohaaGreatDoor
open Go.RowKit

def scZ : SC := ⟨⟨#[]⟩, ⟨#[]⟩, ⟨#[]⟩, ⟨#[]⟩, 0, false, 0, false⟩
/-- a SetOut, as a value -/
def scOutV (c : SC) (code : Int) : Value := .agg #[.string c.na, .string c.va, .string c.dm, .string c.pa, .int .i64 c.ag, .bool c.se, .int .i64 c.mo, .bool c.pt, .int .i64 code]
def scTx (c : SC) : ByteArray := setTx c.na c.va c.dm c.pa c.ag c.se c.mo c.pt
/-- is it the text of what is read of it? -/
def scOk (t : ByteArray) : Bool := !t.toList.isEmpty && ((scTx (scRead t)).toList == t.toList)
/-- what SetRead tells -/
def scGot (t : ByteArray) : SC × Int := if 8000 < t.size then (scZ, 2) else if scOk t = true then (scRead t, 0) else (scZ, 3)
theorem scTo_na (L : List ByteArray) : ∀ i, (scTo L i).na = (pairP (atL L 0)).1 ∧ (scTo L i).va = (pairP (atL L 0)).2
  | 0 => ⟨rfl, rfl⟩
  | i + 1 => by
    have ih := scTo_na L i
    rw [scTo]
    unfold scPut
    split
    · exact ih
    · split
      · exact ih
      · split
        · exact ih
        · split
          · exact ih
          · split
            · exact ih
            · split
              · exact ih
              · exact ih
theorem scRead_small {t : ByteArray} : (scRead t).na.size ≤ t.size ∧ (scRead t).va.size ≤ t.size := by
  have h := scTo_na (piecesL t) ((piecesL t).length - 1)
  unfold scRead
  rw [h.1, h.2]
  have hp := pairP_size (atL (piecesL t) 0)
  have hl : (atL (piecesL t) 0).size ≤ t.size := by
    by_cases h0 : 0 < (piecesL t).length
    · have e : atL (piecesL t) 0 = (piecesL t)[0] := by simp [atL, h0]
      rw [e]; exact piecesL_small t _ (List.getElem_mem h0)
    · have e : atL (piecesL t) 0 = ⟨#[]⟩ := by simp [atL, h0]
      rw [e]; exact Nat.zero_le _
  omega
/-- nine cells in block b, none of them frozen -/
def U9 (w : World) (b : Nat) (v0 v1 v2 v3 v4 v5 v6 v7 v8 : Value) : Prop := b < w.heap.size ∧ (w.cell? ⟨b, 0, none⟩ = some v0 ∧ w.cell? ⟨b, 1, none⟩ = some v1 ∧ w.cell? ⟨b, 2, none⟩ = some v2 ∧ w.cell? ⟨b, 3, none⟩ = some v3 ∧ w.cell? ⟨b, 4, none⟩ = some v4 ∧ w.cell? ⟨b, 5, none⟩ = some v5 ∧ w.cell? ⟨b, 6, none⟩ = some v6 ∧ w.cell? ⟨b, 7, none⟩ = some v7 ∧ w.cell? ⟨b, 8, none⟩ = some v8) ∧ ∀ o, w.frozen? ⟨b, o, none⟩ = false
theorem U9.below {w w' : World} {b : Nat} {v0 v1 v2 v3 v4 v5 v6 v7 v8 : Value} (h : U9 w b v0 v1 v2 v3 v4 v5 v6 v7 v8) (hb : Below w.heap.size w w') : U9 w' b v0 v1 v2 v3 v4 v5 v6 v7 v8 := by
  obtain ⟨hz, ⟨c0, c1, c2, c3, c4, c5, c6, c7, c8⟩, hf⟩ := h
  exact ⟨Nat.lt_of_lt_of_le hz hb.size, ⟨by rw [(bcell hb).1 _ _ hz]; exact c0, by rw [(bcell hb).1 _ _ hz]; exact c1, by rw [(bcell hb).1 _ _ hz]; exact c2, by rw [(bcell hb).1 _ _ hz]; exact c3, by rw [(bcell hb).1 _ _ hz]; exact c4, by rw [(bcell hb).1 _ _ hz]; exact c5, by rw [(bcell hb).1 _ _ hz]; exact c6, by rw [(bcell hb).1 _ _ hz]; exact c7, by rw [(bcell hb).1 _ _ hz]; exact c8⟩, fun o => by rw [(bcell hb).2 _ _ hz]; exact hf o⟩
theorem U9.made (w : World) (v0 v1 v2 v3 v4 v5 v6 v7 v8 : Value) (t : TypeId) : U9 (w.alloc (.cells #[v0, v1, v2, v3, v4, v5, v6, v7, v8] t)) w.heap.size v0 v1 v2 v3 v4 v5 v6 v7 v8 :=
  ⟨by simp, ⟨by simp, by simp, by simp, by simp, by simp, by simp, by simp, by simp, by simp⟩, by simp⟩
theorem U9.set0 {w : World} {b : Nat} {v0 v1 v2 v3 v4 v5 v6 v7 v8 : Value} (h : U9 w b v0 v1 v2 v3 v4 v5 v6 v7 v8) (v : Value) : U9 (w.setCell ⟨b, 0, none⟩ v) b v v1 v2 v3 v4 v5 v6 v7 v8 := by
  obtain ⟨hb, ⟨c0, c1, c2, c3, c4, c5, c6, c7, c8⟩, hf⟩ := h
  refine ⟨by simpa [World.setCell] using hb, ⟨?_, ?_, ?_, ?_, ?_, ?_, ?_, ?_, ?_⟩, ?_⟩
  · exact World.cell?_setCell_same _ _ _ c0
  · exact (World.cell?_setCell_other _ _ _ _ (by simp)).trans c1
  · exact (World.cell?_setCell_other _ _ _ _ (by simp)).trans c2
  · exact (World.cell?_setCell_other _ _ _ _ (by simp)).trans c3
  · exact (World.cell?_setCell_other _ _ _ _ (by simp)).trans c4
  · exact (World.cell?_setCell_other _ _ _ _ (by simp)).trans c5
  · exact (World.cell?_setCell_other _ _ _ _ (by simp)).trans c6
  · exact (World.cell?_setCell_other _ _ _ _ (by simp)).trans c7
  · exact (World.cell?_setCell_other _ _ _ _ (by simp)).trans c8
  · intro o; rw [World.frozen?_setCell]; exact hf o
theorem U9.set1 {w : World} {b : Nat} {v0 v1 v2 v3 v4 v5 v6 v7 v8 : Value} (h : U9 w b v0 v1 v2 v3 v4 v5 v6 v7 v8) (v : Value) : U9 (w.setCell ⟨b, 1, none⟩ v) b v0 v v2 v3 v4 v5 v6 v7 v8 := by
  obtain ⟨hb, ⟨c0, c1, c2, c3, c4, c5, c6, c7, c8⟩, hf⟩ := h
  refine ⟨by simpa [World.setCell] using hb, ⟨?_, ?_, ?_, ?_, ?_, ?_, ?_, ?_, ?_⟩, ?_⟩
  · exact (World.cell?_setCell_other _ _ _ _ (by simp)).trans c0
  · exact World.cell?_setCell_same _ _ _ c1
  · exact (World.cell?_setCell_other _ _ _ _ (by simp)).trans c2
  · exact (World.cell?_setCell_other _ _ _ _ (by simp)).trans c3
  · exact (World.cell?_setCell_other _ _ _ _ (by simp)).trans c4
  · exact (World.cell?_setCell_other _ _ _ _ (by simp)).trans c5
  · exact (World.cell?_setCell_other _ _ _ _ (by simp)).trans c6
  · exact (World.cell?_setCell_other _ _ _ _ (by simp)).trans c7
  · exact (World.cell?_setCell_other _ _ _ _ (by simp)).trans c8
  · intro o; rw [World.frozen?_setCell]; exact hf o
theorem U9.set2 {w : World} {b : Nat} {v0 v1 v2 v3 v4 v5 v6 v7 v8 : Value} (h : U9 w b v0 v1 v2 v3 v4 v5 v6 v7 v8) (v : Value) : U9 (w.setCell ⟨b, 2, none⟩ v) b v0 v1 v v3 v4 v5 v6 v7 v8 := by
  obtain ⟨hb, ⟨c0, c1, c2, c3, c4, c5, c6, c7, c8⟩, hf⟩ := h
  refine ⟨by simpa [World.setCell] using hb, ⟨?_, ?_, ?_, ?_, ?_, ?_, ?_, ?_, ?_⟩, ?_⟩
  · exact (World.cell?_setCell_other _ _ _ _ (by simp)).trans c0
  · exact (World.cell?_setCell_other _ _ _ _ (by simp)).trans c1
  · exact World.cell?_setCell_same _ _ _ c2
  · exact (World.cell?_setCell_other _ _ _ _ (by simp)).trans c3
  · exact (World.cell?_setCell_other _ _ _ _ (by simp)).trans c4
  · exact (World.cell?_setCell_other _ _ _ _ (by simp)).trans c5
  · exact (World.cell?_setCell_other _ _ _ _ (by simp)).trans c6
  · exact (World.cell?_setCell_other _ _ _ _ (by simp)).trans c7
  · exact (World.cell?_setCell_other _ _ _ _ (by simp)).trans c8
  · intro o; rw [World.frozen?_setCell]; exact hf o
theorem U9.set3 {w : World} {b : Nat} {v0 v1 v2 v3 v4 v5 v6 v7 v8 : Value} (h : U9 w b v0 v1 v2 v3 v4 v5 v6 v7 v8) (v : Value) : U9 (w.setCell ⟨b, 3, none⟩ v) b v0 v1 v2 v v4 v5 v6 v7 v8 := by
  obtain ⟨hb, ⟨c0, c1, c2, c3, c4, c5, c6, c7, c8⟩, hf⟩ := h
  refine ⟨by simpa [World.setCell] using hb, ⟨?_, ?_, ?_, ?_, ?_, ?_, ?_, ?_, ?_⟩, ?_⟩
  · exact (World.cell?_setCell_other _ _ _ _ (by simp)).trans c0
  · exact (World.cell?_setCell_other _ _ _ _ (by simp)).trans c1
  · exact (World.cell?_setCell_other _ _ _ _ (by simp)).trans c2
  · exact World.cell?_setCell_same _ _ _ c3
  · exact (World.cell?_setCell_other _ _ _ _ (by simp)).trans c4
  · exact (World.cell?_setCell_other _ _ _ _ (by simp)).trans c5
  · exact (World.cell?_setCell_other _ _ _ _ (by simp)).trans c6
  · exact (World.cell?_setCell_other _ _ _ _ (by simp)).trans c7
  · exact (World.cell?_setCell_other _ _ _ _ (by simp)).trans c8
  · intro o; rw [World.frozen?_setCell]; exact hf o
theorem U9.set4 {w : World} {b : Nat} {v0 v1 v2 v3 v4 v5 v6 v7 v8 : Value} (h : U9 w b v0 v1 v2 v3 v4 v5 v6 v7 v8) (v : Value) : U9 (w.setCell ⟨b, 4, none⟩ v) b v0 v1 v2 v3 v v5 v6 v7 v8 := by
  obtain ⟨hb, ⟨c0, c1, c2, c3, c4, c5, c6, c7, c8⟩, hf⟩ := h
  refine ⟨by simpa [World.setCell] using hb, ⟨?_, ?_, ?_, ?_, ?_, ?_, ?_, ?_, ?_⟩, ?_⟩
  · exact (World.cell?_setCell_other _ _ _ _ (by simp)).trans c0
  · exact (World.cell?_setCell_other _ _ _ _ (by simp)).trans c1
  · exact (World.cell?_setCell_other _ _ _ _ (by simp)).trans c2
  · exact (World.cell?_setCell_other _ _ _ _ (by simp)).trans c3
  · exact World.cell?_setCell_same _ _ _ c4
  · exact (World.cell?_setCell_other _ _ _ _ (by simp)).trans c5
  · exact (World.cell?_setCell_other _ _ _ _ (by simp)).trans c6
  · exact (World.cell?_setCell_other _ _ _ _ (by simp)).trans c7
  · exact (World.cell?_setCell_other _ _ _ _ (by simp)).trans c8
  · intro o; rw [World.frozen?_setCell]; exact hf o
theorem U9.set5 {w : World} {b : Nat} {v0 v1 v2 v3 v4 v5 v6 v7 v8 : Value} (h : U9 w b v0 v1 v2 v3 v4 v5 v6 v7 v8) (v : Value) : U9 (w.setCell ⟨b, 5, none⟩ v) b v0 v1 v2 v3 v4 v v6 v7 v8 := by
  obtain ⟨hb, ⟨c0, c1, c2, c3, c4, c5, c6, c7, c8⟩, hf⟩ := h
  refine ⟨by simpa [World.setCell] using hb, ⟨?_, ?_, ?_, ?_, ?_, ?_, ?_, ?_, ?_⟩, ?_⟩
  · exact (World.cell?_setCell_other _ _ _ _ (by simp)).trans c0
  · exact (World.cell?_setCell_other _ _ _ _ (by simp)).trans c1
  · exact (World.cell?_setCell_other _ _ _ _ (by simp)).trans c2
  · exact (World.cell?_setCell_other _ _ _ _ (by simp)).trans c3
  · exact (World.cell?_setCell_other _ _ _ _ (by simp)).trans c4
  · exact World.cell?_setCell_same _ _ _ c5
  · exact (World.cell?_setCell_other _ _ _ _ (by simp)).trans c6
  · exact (World.cell?_setCell_other _ _ _ _ (by simp)).trans c7
  · exact (World.cell?_setCell_other _ _ _ _ (by simp)).trans c8
  · intro o; rw [World.frozen?_setCell]; exact hf o
theorem U9.set6 {w : World} {b : Nat} {v0 v1 v2 v3 v4 v5 v6 v7 v8 : Value} (h : U9 w b v0 v1 v2 v3 v4 v5 v6 v7 v8) (v : Value) : U9 (w.setCell ⟨b, 6, none⟩ v) b v0 v1 v2 v3 v4 v5 v v7 v8 := by
  obtain ⟨hb, ⟨c0, c1, c2, c3, c4, c5, c6, c7, c8⟩, hf⟩ := h
  refine ⟨by simpa [World.setCell] using hb, ⟨?_, ?_, ?_, ?_, ?_, ?_, ?_, ?_, ?_⟩, ?_⟩
  · exact (World.cell?_setCell_other _ _ _ _ (by simp)).trans c0
  · exact (World.cell?_setCell_other _ _ _ _ (by simp)).trans c1
  · exact (World.cell?_setCell_other _ _ _ _ (by simp)).trans c2
  · exact (World.cell?_setCell_other _ _ _ _ (by simp)).trans c3
  · exact (World.cell?_setCell_other _ _ _ _ (by simp)).trans c4
  · exact (World.cell?_setCell_other _ _ _ _ (by simp)).trans c5
  · exact World.cell?_setCell_same _ _ _ c6
  · exact (World.cell?_setCell_other _ _ _ _ (by simp)).trans c7
  · exact (World.cell?_setCell_other _ _ _ _ (by simp)).trans c8
  · intro o; rw [World.frozen?_setCell]; exact hf o
theorem U9.set7 {w : World} {b : Nat} {v0 v1 v2 v3 v4 v5 v6 v7 v8 : Value} (h : U9 w b v0 v1 v2 v3 v4 v5 v6 v7 v8) (v : Value) : U9 (w.setCell ⟨b, 7, none⟩ v) b v0 v1 v2 v3 v4 v5 v6 v v8 := by
  obtain ⟨hb, ⟨c0, c1, c2, c3, c4, c5, c6, c7, c8⟩, hf⟩ := h
  refine ⟨by simpa [World.setCell] using hb, ⟨?_, ?_, ?_, ?_, ?_, ?_, ?_, ?_, ?_⟩, ?_⟩
  · exact (World.cell?_setCell_other _ _ _ _ (by simp)).trans c0
  · exact (World.cell?_setCell_other _ _ _ _ (by simp)).trans c1
  · exact (World.cell?_setCell_other _ _ _ _ (by simp)).trans c2
  · exact (World.cell?_setCell_other _ _ _ _ (by simp)).trans c3
  · exact (World.cell?_setCell_other _ _ _ _ (by simp)).trans c4
  · exact (World.cell?_setCell_other _ _ _ _ (by simp)).trans c5
  · exact (World.cell?_setCell_other _ _ _ _ (by simp)).trans c6
  · exact World.cell?_setCell_same _ _ _ c7
  · exact (World.cell?_setCell_other _ _ _ _ (by simp)).trans c8
  · intro o; rw [World.frozen?_setCell]; exact hf o
theorem U9.set8 {w : World} {b : Nat} {v0 v1 v2 v3 v4 v5 v6 v7 v8 : Value} (h : U9 w b v0 v1 v2 v3 v4 v5 v6 v7 v8) (v : Value) : U9 (w.setCell ⟨b, 8, none⟩ v) b v0 v1 v2 v3 v4 v5 v6 v7 v := by
  obtain ⟨hb, ⟨c0, c1, c2, c3, c4, c5, c6, c7, c8⟩, hf⟩ := h
  refine ⟨by simpa [World.setCell] using hb, ⟨?_, ?_, ?_, ?_, ?_, ?_, ?_, ?_, ?_⟩, ?_⟩
  · exact (World.cell?_setCell_other _ _ _ _ (by simp)).trans c0
  · exact (World.cell?_setCell_other _ _ _ _ (by simp)).trans c1
  · exact (World.cell?_setCell_other _ _ _ _ (by simp)).trans c2
  · exact (World.cell?_setCell_other _ _ _ _ (by simp)).trans c3
  · exact (World.cell?_setCell_other _ _ _ _ (by simp)).trans c4
  · exact (World.cell?_setCell_other _ _ _ _ (by simp)).trans c5
  · exact (World.cell?_setCell_other _ _ _ _ (by simp)).trans c6
  · exact (World.cell?_setCell_other _ _ _ _ (by simp)).trans c7
  · exact World.cell?_setCell_same _ _ _ c8
  · intro o; rw [World.frozen?_setCell]; exact hf o
set_option maxRecDepth 10000 in
set_option maxHeartbeats 4000000 in
theorem specSetRead_any (t : ByteArray) (w : World) :
    Calls Tryz.prog 12 #[.string t] w fun e w' => e = .returned (scOutV (scGot t).1 (scGot t).2) ∧ Below w.heap.size w w' := by
  have B0 : Hid (∀ ty, Below w.heap.size w (w.alloc (.cells #[.string ⟨#[]⟩, .string ⟨#[]⟩, .string ⟨#[]⟩, .string ⟨#[]⟩, .int .i64 0, .bool false, .int .i64 0, .bool false, .int .i64 0] ty))) := fun ty => (Below.refl _ _).alloc (Nat.le_refl _) _
  have UZ : Hid (∀ ty, U9 (w.alloc (.cells #[.string ⟨#[]⟩, .string ⟨#[]⟩, .string ⟨#[]⟩, .string ⟨#[]⟩, .int .i64 0, .bool false, .int .i64 0, .bool false, .int .i64 0] ty)) w.heap.size (.string ⟨#[]⟩) (.string ⟨#[]⟩) (.string ⟨#[]⟩) (.string ⟨#[]⟩) (.int .i64 0) (.bool false) (.int .i64 0) (.bool false) (.int .i64 0)) := fun ty => U9.made w (.string ⟨#[]⟩) (.string ⟨#[]⟩) (.string ⟨#[]⟩) (.string ⟨#[]⟩) (.int .i64 0) (.bool false) (.int .i64 0) (.bool false) (.int .i64 0) ty
  by_cases h8 : 8000 < t.size
  · have HX : Hid (scGot t = (scZ, 2)) := by show _ = _; rw [scGot, if_pos h8]
    generalize scGot t = G at *
    go_enter Tryz.func12, Tryz.ntmps12
    go_wp2
    exact bodyPost_ret (v := scOutV scZ 2) (by simp [scOutV, scZ, results, Tryz.results12, go_sem]) rfl ⟨by rw [HX.out], (Below.refl _ _).alloc (Nat.le_refl _) _⟩
  have q8 : decide ((8000 : Int) < (t.size : Int)) = false := by rw [decide_eq_false_iff_not]; omega
  have KR : Hid (∀ W, Calls Tryz.prog 40 #[.string t] W fun e w' => e = .returned (.agg #[.string (scRead t).na, .string (scRead t).va, .string (scRead t).dm, .string (scRead t).pa, .int .i64 (scRead t).ag, .bool (scRead t).se, .int .i64 (scRead t).mo, .bool (scRead t).pt]) ∧ Below W.heap.size W w') := fun W => specSetRd_any t W (by omega)
  have hsm := scRead_small (t := t)
  have KT : Hid (∀ W, Calls Tryz.prog 9 #[.agg #[.string (scRead t).na, .string (scRead t).va, .string (scRead t).dm, .string (scRead t).pa, .int .i64 (scRead t).ag, .bool (scRead t).se, .int .i64 (scRead t).mo, .bool (scRead t).pt]] W fun e w' => e = .returned (.string (scTx (scRead t))) ∧ Below W.heap.size W w') := fun W => specSetText_any _ _ _ _ _ _ _ _ W (by omega) (by omega)
  have HY : Hid (scOk t = true → scGot t = (scRead t, 0)) := fun h => by rw [scGot, if_neg h8, if_pos h]
  have HN : Hid (scOk t = false → scGot t = (scZ, 3)) := fun h => by rw [scGot, if_neg h8, if_neg (by rw [h]; decide)]
  have HO : Hid (scOk t = (!t.toList.isEmpty && ((scTx (scRead t)).toList == t.toList))) := rfl
  generalize scGot t = G at *
  generalize scOk t = ok at *
  generalize scTx (scRead t) = TX at *
  generalize scRead t = c at *
  clear hsm
  go_enter Tryz.func12, Tryz.ntmps12
  go_wp2_with fail
  refine (KR.out _).mono ?_
  rintro e w1 ⟨rfl, hb1⟩
  have U1 : Hid (U9 w1 w.heap.size (.string ⟨#[]⟩) (.string ⟨#[]⟩) (.string ⟨#[]⟩) (.string ⟨#[]⟩) (.int .i64 0) (.bool false) (.int .i64 0) (.bool false) (.int .i64 0)) := (UZ.out _).below hb1
  have B1 : Hid (Below w.heap.size w w1) := (B0.out _).trans (hb1.mono (by simp))
  clear hb1
  cases hemp : t.toList.isEmpty with
  | true =>
    have HX : Hid (G = (scZ, 3)) := HN.out (by rw [HO.out, hemp]; rfl)
    obtain ⟨hz1, ⟨g0, g1, g2, g3, g4, g5, g6, g7, g8⟩, gf⟩ := U1.out
    go_wp2
    have FR := (U9.set8 (U9.set7 (U9.set6 (U9.set5 (U9.set4 (U9.set3 (U9.set2 (U9.set1 (U9.set0 U1.out (.string ⟨#[]⟩)) (.string ⟨#[]⟩)) (.string ⟨#[]⟩)) (.string ⟨#[]⟩)) (.int .i64 0)) (.bool false)) (.int .i64 0)) (.bool false)) (.int .i64 3)).below ((Below.refl _ _).alloc (Nat.le_refl _) (.cells #[.string c.na, .string c.va, .string c.dm, .string c.pa, .int .i64 c.ag, .bool c.se, .int .i64 c.mo, .bool c.pt] 24))
    have FB := (Below.setCell (Below.setCell (Below.setCell (Below.setCell (Below.setCell (Below.setCell (Below.setCell (Below.setCell (Below.setCell B1.out (p := ⟨w.heap.size, 0, none⟩) (Nat.le_refl _) (.string ⟨#[]⟩)) (p := ⟨w.heap.size, 1, none⟩) (Nat.le_refl _) (.string ⟨#[]⟩)) (p := ⟨w.heap.size, 2, none⟩) (Nat.le_refl _) (.string ⟨#[]⟩)) (p := ⟨w.heap.size, 3, none⟩) (Nat.le_refl _) (.string ⟨#[]⟩)) (p := ⟨w.heap.size, 4, none⟩) (Nat.le_refl _) (.int .i64 0)) (p := ⟨w.heap.size, 5, none⟩) (Nat.le_refl _) (.bool false)) (p := ⟨w.heap.size, 6, none⟩) (Nat.le_refl _) (.int .i64 0)) (p := ⟨w.heap.size, 7, none⟩) (Nat.le_refl _) (.bool false)) (p := ⟨w.heap.size, 8, none⟩) (Nat.le_refl _) (.int .i64 3)).alloc (by have := B1.out.size; simp [World.setCell]; omega) (.cells #[.string c.na, .string c.va, .string c.dm, .string c.pa, .int .i64 c.ag, .bool c.se, .int .i64 c.mo, .bool c.pt] 24)
    generalize ((((((((((w1.setCell ⟨w.heap.size, 0, none⟩ (.string ⟨#[]⟩)).setCell ⟨w.heap.size, 1, none⟩ (.string ⟨#[]⟩)).setCell ⟨w.heap.size, 2, none⟩ (.string ⟨#[]⟩)).setCell ⟨w.heap.size, 3, none⟩ (.string ⟨#[]⟩)).setCell ⟨w.heap.size, 4, none⟩ (.int .i64 0)).setCell ⟨w.heap.size, 5, none⟩ (.bool false)).setCell ⟨w.heap.size, 6, none⟩ (.int .i64 0)).setCell ⟨w.heap.size, 7, none⟩ (.bool false)).setCell ⟨w.heap.size, 8, none⟩ (.int .i64 3)).alloc (.cells #[.string c.na, .string c.va, .string c.dm, .string c.pa, .int .i64 c.ag, .bool c.se, .int .i64 c.mo, .bool c.pt] 24)) = W at *
    obtain ⟨hy, ⟨f0, f1, f2, f3, f4, f5, f6, f7, f8⟩, _⟩ := FR
    exact bodyPost_ret (v := scOutV scZ 3) (by simp [scOutV, scZ, results, Tryz.results12, go_sem, f0, f1, f2, f3, f4, f5, f6, f7, f8]) rfl ⟨by rw [HX.out], FB⟩
  | false =>
    have NW : Hid (∀ (W : World) o, Below W.heap.size W (W.alloc o)) := fun W o => (Below.refl _ _).alloc (Nat.le_refl _) _
    go_wp2_with fail
    refine (KT.out _).mono ?_
    rintro e w2 ⟨rfl, hb2⟩
    have U2' : Hid (U9 w2 w.heap.size (.string ⟨#[]⟩) (.string ⟨#[]⟩) (.string ⟨#[]⟩) (.string ⟨#[]⟩) (.int .i64 0) (.bool false) (.int .i64 0) (.bool false) (.int .i64 0)) := (U1.out.below (NW.out _ _)).below hb2
    have C2 : Hid (U8 w2 w1.heap.size (.string c.na) (.string c.va) (.string c.dm) (.string c.pa) (.int .i64 c.ag) (.bool c.se) (.int .i64 c.mo) (.bool c.pt)) := (U8.made w1 (.string c.na) (.string c.va) (.string c.dm) (.string c.pa) (.int .i64 c.ag) (.bool c.se) (.int .i64 c.mo) (.bool c.pt) 24).below hb2
    have B2 : Hid (Below w.heap.size w w2) := (B1.out.trans ((NW.out _ _).mono B1.out.size)).trans (hb2.mono (by have := B1.out.size; simp; omega))
    clear hb2 U1 NW
    obtain ⟨hz2, ⟨g0, g1, g2, g3, g4, g5, g6, g7, g8⟩, gf⟩ := U2'.out
    obtain ⟨hzc, ⟨r0, r1, r2, r3, r4, r5, r6, r7⟩, rf⟩ := C2.out
    cases heq : (TX.toList == t.toList) with
    | false =>
      have HX : Hid (G = (scZ, 3)) := HN.out (by rw [HO.out, hemp, heq]; rfl)
      go_wp2
      have FR := (U9.set8 (U9.set7 (U9.set6 (U9.set5 (U9.set4 (U9.set3 (U9.set2 (U9.set1 (U9.set0 U2'.out (.string ⟨#[]⟩)) (.string ⟨#[]⟩)) (.string ⟨#[]⟩)) (.string ⟨#[]⟩)) (.int .i64 0)) (.bool false)) (.int .i64 0)) (.bool false)) (.int .i64 3))
      have FB := (Below.setCell (Below.setCell (Below.setCell (Below.setCell (Below.setCell (Below.setCell (Below.setCell (Below.setCell (Below.setCell B2.out (p := ⟨w.heap.size, 0, none⟩) (Nat.le_refl _) (.string ⟨#[]⟩)) (p := ⟨w.heap.size, 1, none⟩) (Nat.le_refl _) (.string ⟨#[]⟩)) (p := ⟨w.heap.size, 2, none⟩) (Nat.le_refl _) (.string ⟨#[]⟩)) (p := ⟨w.heap.size, 3, none⟩) (Nat.le_refl _) (.string ⟨#[]⟩)) (p := ⟨w.heap.size, 4, none⟩) (Nat.le_refl _) (.int .i64 0)) (p := ⟨w.heap.size, 5, none⟩) (Nat.le_refl _) (.bool false)) (p := ⟨w.heap.size, 6, none⟩) (Nat.le_refl _) (.int .i64 0)) (p := ⟨w.heap.size, 7, none⟩) (Nat.le_refl _) (.bool false)) (p := ⟨w.heap.size, 8, none⟩) (Nat.le_refl _) (.int .i64 3))
      generalize (((((((((w2.setCell ⟨w.heap.size, 0, none⟩ (.string ⟨#[]⟩)).setCell ⟨w.heap.size, 1, none⟩ (.string ⟨#[]⟩)).setCell ⟨w.heap.size, 2, none⟩ (.string ⟨#[]⟩)).setCell ⟨w.heap.size, 3, none⟩ (.string ⟨#[]⟩)).setCell ⟨w.heap.size, 4, none⟩ (.int .i64 0)).setCell ⟨w.heap.size, 5, none⟩ (.bool false)).setCell ⟨w.heap.size, 6, none⟩ (.int .i64 0)).setCell ⟨w.heap.size, 7, none⟩ (.bool false)).setCell ⟨w.heap.size, 8, none⟩ (.int .i64 3)) = W at *
      obtain ⟨hy, ⟨f0, f1, f2, f3, f4, f5, f6, f7, f8⟩, _⟩ := FR
      exact bodyPost_ret (v := scOutV scZ 3) (by simp [scOutV, scZ, results, Tryz.results12, go_sem, f0, f1, f2, f3, f4, f5, f6, f7, f8]) rfl ⟨by rw [HX.out], FB⟩
    | true =>
      have HX : Hid (G = (c, 0)) := HY.out (by rw [HO.out, hemp, heq]; rfl)
      go_wp2
      have FR := (U9.set8 (U9.set7 (U9.set6 (U9.set5 (U9.set4 (U9.set3 (U9.set2 (U9.set1 (U9.set0 U2'.out (.string c.na)) (.string c.va)) (.string c.dm)) (.string c.pa)) (.int .i64 c.ag)) (.bool c.se)) (.int .i64 c.mo)) (.bool c.pt)) (.int .i64 0))
      have FB := (Below.setCell (Below.setCell (Below.setCell (Below.setCell (Below.setCell (Below.setCell (Below.setCell (Below.setCell (Below.setCell B2.out (p := ⟨w.heap.size, 0, none⟩) (Nat.le_refl _) (.string c.na)) (p := ⟨w.heap.size, 1, none⟩) (Nat.le_refl _) (.string c.va)) (p := ⟨w.heap.size, 2, none⟩) (Nat.le_refl _) (.string c.dm)) (p := ⟨w.heap.size, 3, none⟩) (Nat.le_refl _) (.string c.pa)) (p := ⟨w.heap.size, 4, none⟩) (Nat.le_refl _) (.int .i64 c.ag)) (p := ⟨w.heap.size, 5, none⟩) (Nat.le_refl _) (.bool c.se)) (p := ⟨w.heap.size, 6, none⟩) (Nat.le_refl _) (.int .i64 c.mo)) (p := ⟨w.heap.size, 7, none⟩) (Nat.le_refl _) (.bool c.pt)) (p := ⟨w.heap.size, 8, none⟩) (Nat.le_refl _) (.int .i64 0))
      generalize (((((((((w2.setCell ⟨w.heap.size, 0, none⟩ (.string c.na)).setCell ⟨w.heap.size, 1, none⟩ (.string c.va)).setCell ⟨w.heap.size, 2, none⟩ (.string c.dm)).setCell ⟨w.heap.size, 3, none⟩ (.string c.pa)).setCell ⟨w.heap.size, 4, none⟩ (.int .i64 c.ag)).setCell ⟨w.heap.size, 5, none⟩ (.bool c.se)).setCell ⟨w.heap.size, 6, none⟩ (.int .i64 c.mo)).setCell ⟨w.heap.size, 7, none⟩ (.bool c.pt)).setCell ⟨w.heap.size, 8, none⟩ (.int .i64 0)) = W at *
      obtain ⟨hy, ⟨f0, f1, f2, f3, f4, f5, f6, f7, f8⟩, _⟩ := FR
      exact bodyPost_ret (v := scOutV c 0) (by simp [scOutV, results, Tryz.results12, go_sem, f0, f1, f2, f3, f4, f5, f6, f7, f8]) rfl ⟨by rw [HX.out], FB⟩
end Go.Proofs.YthcpmbolnmlohaaGreatDoor

/- Plain facts of texts: finding, digits, the bytes of a host. -/
namespace Go.Proofs.YthcpmbolnmlohaaGreatDoor

theorem isAt_head {t x : ByteArray} {i : Nat} (hx : 0 < x.size) (hi : i + x.size ≤ t.size) (h : isAt t x i = true) : t[i] = x[0] := by
  unfold isAt at h
  rw [beq_iff_eq] at h
  have e : t.extract i (i + x.size) = x := by
    apply ByteArray.ext
    rw [ByteArray.toList_eq, ByteArray.toList_eq] at h
    exact Array.toList_inj.mp h
  have e0 : (t.extract i (i + x.size))[0]'(by rw [e]; exact hx) = x[0] := by simp only [e]
  rw [ByteArray.getElem_extract] at e0
  simpa using e0
theorem findTo_no {t x : ByteArray} (hx : 0 < x.size) (k : Nat) (hno : ∀ i (h : i < t.size), i < k → t[i] ≠ x[0]) : findTo t x k = none := by
  induction k with
  | zero => rfl
  | succ k ih =>
    refine findTo_miss (ih (fun i h hi => hno i h (by omega))) ?_
    rintro ⟨h1, h2⟩
    exact hno k (by omega) (by omega) (isAt_head hx h1 h2)
theorem findN_first {t x : ByteArray} (k : Nat) (hx : 0 < x.size) (hk : k + x.size ≤ t.size) (hat : isAt t x k = true) (hno : ∀ i (h : i < t.size), i < k → t[i] ≠ x[0]) : findN t x = some k := by
  have h := findTo_keep (findTo_hit (findTo_no hx k hno) hk hat) (t.size - k)
  unfold findN
  rw [show t.size + 1 = k + 1 + (t.size - k) by omega, h]
theorem findN_nowhere {t x : ByteArray} (hx : 0 < x.size) (hno : ∀ i (h : i < t.size), t[i] ≠ x[0]) : findN t x = none :=
  findTo_no hx _ (fun i h _ => hno i h)
theorem isAt_mid (a x b : ByteArray) : isAt (a ++ x ++ b) x a.size = true := by
  unfold isAt
  rw [beq_iff_eq]
  congr 1
  have h := ByteArray.extract_append_size_add (a := a) (b := x ++ b) (i := 0) (j := x.size)
  rw [Nat.add_zero] at h
  rw [ByteArray.append_assoc, h]
  exact ByteArray.extract_append_eq_left rfl
theorem findN_mid (a x b : ByteArray) (hx : 0 < x.size) (hno : ∀ i (h : i < a.size), a[i] ≠ x[0]) : findN (a ++ x ++ b) x = some a.size := by
  refine findN_first a.size hx (by rw [ByteArray.size_append, ByteArray.size_append]; omega) (isAt_mid a x b) ?_
  intro i h hi
  rw [ByteArray.getElem_append_left (by rw [ByteArray.size_append]; omega), ByteArray.getElem_append_left hi]
  exact hno i hi

theorem tail_of (a b : ByteArray) (n : Nat) (h : n = a.size) : (a ++ b).extract n (a ++ b).size = b := ByteArray.extract_append_eq_right h ByteArray.size_append
theorem head_of (a b : ByteArray) (n : Nat) (h : n = a.size) : (a ++ b).extract 0 n = a := ByteArray.extract_append_eq_left h

/-- the number that digits tell -/
def numL (l : List UInt8) : Nat := l.foldl (fun n c => 10 * n + (c.toNat - 48)) 0
theorem numL_snoc (l : List UInt8) (d : UInt8) : numL (l ++ [d]) = 10 * numL l + (d.toNat - 48) := by
  unfold numL; rw [List.foldl_append]; rfl
theorem numTo_take (t : ByteArray) (i : Nat) (h : i ≤ t.size) : numTo t i = numL (t.data.toList.take i) := by
  induction i with
  | zero => rfl
  | succ i ih =>
    have hl : i < t.data.toList.length := by simp; omega
    rw [numTo_succ (by omega), ih (by omega), List.take_succ_eq_append_getElem hl, numL_snoc]
    rfl
theorem digit_nat (m : Nat) : (UInt8.ofNat (48 + m % 10)).toNat = 48 + m % 10 := by
  rw [UInt8.toNat_ofNat']
  have : m % 10 < 10 := Nat.mod_lt _ (by decide)
  omega
theorem decA_num (m : Nat) : numL (decA m) = m := by
  induction m using Nat.strongRecOn with
  | _ m ih =>
    by_cases h : m = 0
    · subst h; rfl
    · rw [decA_pos (by omega), numL_snoc, ih (m / 10) (by omega), digit_nat]; omega
theorem decA_dig (m : Nat) : ∀ c ∈ decA m, 48 ≤ c.toNat ∧ c.toNat ≤ 57 := by
  induction m using Nat.strongRecOn with
  | _ m ih =>
    by_cases h : m = 0
    · subst h; intro c hc; cases hc
    · rw [decA_pos (by omega)]
      intro c hc
      rw [List.mem_append] at hc
      rcases hc with hc | hc
      · exact ih (m / 10) (by omega) c hc
      · rw [List.mem_singleton] at hc
        subst hc
        rw [digit_nat]; omega
theorem decA_lead (m : Nat) (h : 0 < m) : ∃ c l, decA m = c :: l ∧ ¬ c.toNat = 48 := by
  induction m using Nat.strongRecOn with
  | _ m ih =>
    by_cases h10 : m < 10
    · rw [decA_pos h, show m / 10 = 0 by omega, decA_zero]
      exact ⟨_, _, rfl, by rw [digit_nat]; omega⟩
    · obtain ⟨c, l, hc, hn⟩ := ih (m / 10) (by omega) (by omega)
      rw [decA_pos h, hc]
      exact ⟨c, _, rfl, hn⟩
theorem decB_back (n : Int) (h1 : 1 ≤ n) (h2 : n ≤ 65535) : numI (decB n) = n := by
  have hd : decB n = ⟨(decA n.natAbs).toArray⟩ := by rw [decB, if_neg (by omega), if_neg (by omega)]
  have hz : (decB n).size = (decA n.natAbs).length := by rw [hd]; rfl
  have hl := decA_len 5 n.natAbs (by omega)
  obtain ⟨c, l, hc, hn⟩ := decA_lead n.natAbs (by omega)
  have hp : 0 < (decA n.natAbs).length := by rw [hc]; simp
  rw [numI_yes (by omega) (by omega)]
  · rw [numTo_take _ _ (Nat.le_refl _), hd]
    show ((numL ((decA n.natAbs).take (decA n.natAbs).length) : Nat) : Int) = n
    rw [List.take_length, decA_num]; omega
  · intro _ h0
    have e : (decB n)[0] = c := by
      simp only [hd]
      show (decA n.natAbs)[0] = c
      simp only [hc]; rfl
    rw [e]; exact hn
  · intro i h
    have e : (decB n)[i] = (decA n.natAbs)[i]'(by omega) := by
      simp only [hd]; rfl
    rw [e]
    exact digC_yes (decA_dig n.natAbs _ (List.getElem_mem _))
theorem decB_dig (n : Int) (h1 : 1 ≤ n) : ∀ i (h : i < (decB n).size), 48 ≤ (decB n)[i].toNat ∧ (decB n)[i].toNat ≤ 57 := by
  have hd : decB n = ⟨(decA n.natAbs).toArray⟩ := by rw [decB, if_neg (by omega), if_neg (by omega)]
  intro i h
  have hz : (decB n).size = (decA n.natAbs).length := by rw [hd]; rfl
  have e : (decB n)[i] = (decA n.natAbs)[i]'(by omega) := by
    simp only [hd]; rfl
  rw [e]
  exact decA_dig n.natAbs _ (List.getElem_mem _)

/-- each byte of a text is the one that it is cut at, or one of a piece's -/
theorem splitTo_bytes (s : ByteArray) (c k : Nat) : ∀ i (h : i < s.size), i < k → s[i].toNat = c ∨ (∃ x ∈ (splitTo s c k).1, ∃ j, ∃ hj : j < x.size, x[j] = s[i]) ∨ (splitTo s c k).2 ≤ i := by
  induction k with
  | zero => intro i _ h; omega
  | succ k ih =>
    intro i h hi
    by_cases hk : k < s.size
    · by_cases hc : s[k].toNat = c
      · rw [splitTo_hit hk hc]
        by_cases e : i = k
        · subst e; exact .inl hc
        · rcases ih i h (by omega) with h1 | ⟨x, hx, hj⟩ | h1
          · exact .inl h1
          · exact .inr (.inl ⟨x, List.mem_append_left _ hx, hj⟩)
          · refine .inr (.inl ⟨_, List.mem_append_right _ (List.mem_singleton.mpr rfl), i - (splitTo s c k).2, ?_, ?_⟩)
            · rw [ByteArray.size_extract]; omega
            · rw [ByteArray.getElem_extract]
              congr 1; omega
      · rw [splitTo_miss hk hc]
        by_cases e : i = k
        · subst e; exact .inr (.inr (splitTo_le s c i).1)
        · exact ih i h (by omega)
    · have e : splitTo s c (k + 1) = splitTo s c k := by rw [splitTo, dif_neg hk]
      rw [e]
      exact ih i h (by omega)
theorem splitB_bytes (s : ByteArray) (c : Nat) : ∀ i (h : i < s.size), s[i].toNat = c ∨ ∃ x ∈ splitB s c, ∃ j, ∃ hj : j < x.size, x[j] = s[i] := by
  intro i h
  rcases splitTo_bytes s c s.size i h h with h1 | ⟨x, hx, hj⟩ | h1
  · exact .inl h1
  · exact .inr ⟨x, List.mem_append_left _ hx, hj⟩
  · refine .inr ⟨_, List.mem_append_right _ (List.mem_singleton.mpr rfl), i - (splitTo s c s.size).2, ?_, ?_⟩
    · rw [ByteArray.size_extract]; omega
    · rw [ByteArray.getElem_extract]
      congr 1; omega
theorem hostB_bytes {s : ByteArray} (h : hostB s = true) : ∀ i (h : i < s.size), ((97 ≤ s[i].toNat ∧ s[i].toNat ≤ 122) ∨ (48 ≤ s[i].toNat ∧ s[i].toNat ≤ 57) ∨ s[i].toNat = 45) ∨ s[i].toNat = 46 := by
  intro i hi
  unfold hostB at h
  simp only [Bool.and_eq_true] at h
  rcases splitB_bytes s 46 i hi with h1 | ⟨x, hx, j, hj, e⟩
  · exact .inr h1
  · refine .inl ?_
    have hl := List.all_eq_true.mp h.1.2 x hx
    unfold labelB at hl
    rw [decide_eq_true_iff] at hl
    have := hl.2.2.2.2 j hj
    rw [e] at this
    unfold labC at this
    rwa [decide_eq_true_iff] at this
theorem ne_of_nat {a b : UInt8} (h : a.toNat ≠ b.toNat) : a ≠ b := fun e => h (by rw [e])
end Go.Proofs.YthcpmbolnmlohaaGreatDoor

/- Texts with '; ' between, cut apart again: plain facts, no walk. -/
namespace Go.Proofs.YthcpmbolnmlohaaGreatDoor

theorem findI_mid (a x b : ByteArray) (hx : 0 < x.size) (hno : ∀ i (h : i < a.size), a[i] ≠ x[0]) : findI (a ++ x ++ b) x = a.size := by
  unfold findI; rw [findN_mid a x b hx hno]
theorem findI_nowhere {t x : ByteArray} (hx : 0 < x.size) (hno : ∀ i (h : i < t.size), t[i] ≠ x[0]) : findI t x = -1 := by
  unfold findI; rw [findN_nowhere hx hno]
/-- a text without a byte -/
def Lacks (t : ByteArray) (c : UInt8) : Prop := ∀ i (h : i < t.size), t[i] ≠ c
theorem Lacks.app {a b : ByteArray} {c : UInt8} (h1 : Lacks a c) (h2 : Lacks b c) : Lacks (a ++ b) c := by
  intro i h
  by_cases hi : i < a.size
  · rw [ByteArray.getElem_append_left hi]; exact h1 i hi
  · rw [ByteArray.getElem_append_right (by omega)]; exact h2 _ _
theorem pieces_one {a : ByteArray} (h : Lacks a 59) : piecesL a = [a] := by
  rw [piecesL, dif_neg]
  rw [findI_nowhere (t := a) (x := semi) (by decide) h]; decide
theorem pieces_cons {a : ByteArray} (b : ByteArray) (h : Lacks a 59) : piecesL (a ++ semi ++ b) = a :: piecesL b := by
  have e := findI_mid a semi b (by decide) h
  have s2 : (a ++ semi).size = a.size + 2 := by rw [ByteArray.size_append]; rfl
  rw [piecesL, dif_pos (by rw [e]; omega), e]
  have e0 : ((a.size : Int)).toNat = a.size := by omega
  rw [e0, tail_of (a ++ semi) b _ s2.symm, ByteArray.append_assoc, head_of a _ _ rfl]
theorem pair_mid {a : ByteArray} (b : ByteArray) (h : Lacks a 61) : pairP (a ++ equ ++ b) = (a, b) := by
  have e := findI_mid a equ b (by decide) h
  have s2 : (a ++ equ).size = a.size + 1 := by rw [ByteArray.size_append]; rfl
  rw [pairP_yes e, tail_of (a ++ equ) b _ s2.symm, ByteArray.append_assoc, head_of a _ _ rfl]
theorem pair_nowhere {a : ByteArray} (h : Lacks a 61) : pairP a = (a, ⟨#[]⟩) := by
  refine pairP_no ?_
  rw [findI_nowhere (t := a) (x := equ) (by decide) h]; decide

/-- pieces, each with '; ' ahead -/
def flat : List ByteArray → ByteArray
  | [] => ⟨#[]⟩
  | p :: r => semi ++ p ++ flat r
theorem app_nil (x : ByteArray) : x ++ (⟨#[]⟩ : ByteArray) = x := by apply ByteArray.ext; simp
theorem nil_app (x : ByteArray) : (⟨#[]⟩ : ByteArray) ++ x = x := by apply ByteArray.ext; simp
theorem flat_app (r s : List ByteArray) : flat (r ++ s) = flat r ++ flat s := by
  induction r with
  | nil => exact (nil_app _).symm
  | cons p r ih => show semi ++ p ++ flat (r ++ s) = semi ++ p ++ flat r ++ flat s; rw [ih, ByteArray.append_assoc (a := semi ++ p)]
theorem pieces_flat (p : ByteArray) (r : List ByteArray) (hp : Lacks p 59) (h : ∀ q ∈ r, Lacks q 59) : piecesL (p ++ flat r) = p :: r := by
  induction r generalizing p with
  | nil => rw [flat, app_nil]; exact pieces_one hp
  | cons q r ih =>
    have e : p ++ flat (q :: r) = p ++ semi ++ (q ++ flat r) := by
      show p ++ (semi ++ q ++ flat r) = _
      simp only [ByteArray.append_assoc]
    rw [e, pieces_cons _ hp, ih q (h q (by simp)) (fun x hx => h x (by simp [hx]))]
theorem flat_one (p : ByteArray) : flat [p] = semi ++ p := by show semi ++ p ++ ⟨#[]⟩ = _; rw [app_nil]
end Go.Proofs.YthcpmbolnmlohaaGreatDoor

/- A right SetCookie comes back from its text: plain facts, no walk. -/
namespace Go.Proofs.YthcpmbolnmlohaaGreatDoor

theorem scTo_foldl (p : ByteArray) (r : List ByteArray) (i : Nat) (h : i ≤ r.length) : scTo (p :: r) i = (r.take i).foldl scPut ⟨(pairP p).1, (pairP p).2, ⟨#[]⟩, ⟨#[]⟩, -1, false, 0, false⟩ := by
  induction i with
  | zero => rfl
  | succ i ih =>
    have hl : i < r.length := by omega
    have e : atL (p :: r) (i + 1) = r[i] := by simp [atL, hl]
    rw [scTo, ih (by omega), e, List.take_succ_eq_append_getElem hl, List.foldl_append]
    rfl

def nDomain : ByteArray := ⟨#[68, 111, 109, 97, 105, 110]⟩
def nPath : ByteArray := ⟨#[80, 97, 116, 104]⟩
def nAge : ByteArray := ⟨#[77, 97, 120, 45, 65, 103, 101]⟩
def nSecure : ByteArray := ⟨#[83, 101, 99, 117, 114, 101]⟩
def nParted : ByteArray := ⟨#[80, 97, 114, 116, 105, 116, 105, 111, 110, 101, 100]⟩
def nSame : ByteArray := ⟨#[83, 97, 109, 101, 83, 105, 116, 101]⟩
def vStrict : ByteArray := ⟨#[83, 116, 114, 105, 99, 116]⟩
def vNone : ByteArray := ⟨#[78, 111, 110, 101]⟩
def o1 (dm : ByteArray) : List ByteArray := if dm.toList.isEmpty = true then [] else [nDomain ++ equ ++ dm]
def o2 (pa : ByteArray) : List ByteArray := if pa.toList.isEmpty = true then [] else [nPath ++ equ ++ pa]
def o3 (ag : Int) : List ByteArray := if 0 ≤ ag then [nAge ++ equ ++ decB ag] else []
def o4 (se : Bool) : List ByteArray := if se = true then [nSecure] else []
def o5 (mo : Int) : List ByteArray := if mo = 1 then [nSame ++ equ ++ vStrict] else if mo = 2 then [nSame ++ equ ++ vNone] else []
def o6 (pt : Bool) : List ByteArray := if pt = true then [nParted] else []
theorem t1_flat (x dm : ByteArray) : setT1 x dm = x ++ flat (o1 dm) := by
  unfold setT1 o1; split
  · exact (app_nil x).symm
  · rw [flat_one, show kDomain = semi ++ (nDomain ++ equ) from by rfl]; simp only [ByteArray.append_assoc]
theorem t2_flat (x pa : ByteArray) : setT2 x pa = x ++ flat (o2 pa) := by
  unfold setT2 o2; split
  · exact (app_nil x).symm
  · rw [flat_one, show kPath = semi ++ (nPath ++ equ) from by rfl]; simp only [ByteArray.append_assoc]
theorem t3_flat (x : ByteArray) (ag : Int) : setT3 x ag = x ++ flat (o3 ag) := by
  unfold setT3 o3; split
  · rw [flat_one, show kAge = semi ++ (nAge ++ equ) from by rfl]; simp only [ByteArray.append_assoc]
  · exact (app_nil x).symm
theorem t4_flat (x : ByteArray) (se : Bool) : setT4 x se = x ++ flat (o4 se) := by
  unfold setT4 o4; split
  · rw [flat_one]; rfl
  · exact (app_nil x).symm
theorem t5_flat (x : ByteArray) (mo : Int) : setT5 x mo = x ++ flat (o5 mo) := by
  unfold setT5 o5; split
  · rw [flat_one]; rfl
  · split
    · rw [flat_one]; rfl
    · exact (app_nil x).symm
theorem t6_flat (x : ByteArray) (pt : Bool) : setT6 x pt = x ++ flat (o6 pt) := by
  unfold setT6 o6; split
  · rw [flat_one]; rfl
  · exact (app_nil x).symm
theorem setT_flat (na va dm pa : ByteArray) (ag : Int) (se : Bool) (mo : Int) (pt : Bool) : setT na va dm pa ag se mo pt = (na ++ equ ++ va) ++ flat (o1 dm ++ o2 pa ++ o3 ag ++ o4 se ++ o5 mo ++ o6 pt) := by
  unfold setT
  rw [t6_flat, t5_flat, t4_flat, t3_flat, t2_flat, t1_flat, show setT0 na va = na ++ equ ++ va from rfl]
  simp only [flat_app, ByteArray.append_assoc]

instance (t : ByteArray) (c : UInt8) : Decidable (Lacks t c) := by unfold Lacks; infer_instance
theorem wordB_bytes {t : ByteArray} (h : wordB t = true) : Lacks t 59 ∧ Lacks t 61 := by
  unfold wordB at h
  rw [Bool.and_eq_true, decide_eq_true_eq] at h
  constructor <;> intro i hi e <;> have := h.1 i hi <;> rw [e] at this <;> revert this <;> decide
theorem host_bytes {t : ByteArray} (h : hostB t = true) : Lacks t 59 := by
  intro i hi e
  have := hostB_bytes h i hi
  rw [e] at this
  revert this; decide
theorem path_bytes {t : ByteArray} (h : pathB t = true) : Lacks t 59 := by
  unfold pathB at h
  rw [decide_eq_true_eq] at h
  intro i hi e
  have := h.2.2.2 i hi
  rw [e] at this
  revert this; decide
theorem nil_of {t : ByteArray} (h : t.toList.isEmpty = true) : t = ⟨#[]⟩ := by
  rw [Lib.toList_data, List.isEmpty_iff] at h
  apply ByteArray.ext
  exact Array.toList_inj.mp h
theorem orB_bytes {t : ByteArray} {b : Bool} (h : orB t b = true) (hb : b = true → Lacks t 59) : Lacks t 59 := by
  unfold orB at h
  rw [Bool.or_eq_true] at h
  rcases h with h | h
  · rw [nil_of h]; intro i hi; exact absurd hi (by show ¬ i < 0; omega)
  · exact hb h
theorem dec_bytes (ag : Int) (h : 0 ≤ ag) : Lacks (decB ag) 59 := by
  by_cases h0 : ag = 0
  · subst h0; decide
  · intro i hi e
    have := decB_dig ag (by omega) i hi
    rw [e] at this
    revert this; decide
/-- a number up to MaxTime comes back -/
theorem age_back (n : Int) (h1 : 0 ≤ n) (h2 : n ≤ 1000000) : numI (decB n) = n := by
  by_cases h0 : n = 0
  · subst h0; decide
  have hd : decB n = ⟨(decA n.natAbs).toArray⟩ := by rw [decB, if_neg (by omega), if_neg (by omega)]
  have hz : (decB n).size = (decA n.natAbs).length := by rw [hd]; rfl
  have hl := decA_len 7 n.natAbs (by omega)
  obtain ⟨c, l, hc, hn⟩ := decA_lead n.natAbs (by omega)
  have hp : 0 < (decA n.natAbs).length := by rw [hc]; simp
  rw [numI_yes (by omega) (by omega)]
  · rw [numTo_take _ _ (Nat.le_refl _), hd]
    show ((numL ((decA n.natAbs).take (decA n.natAbs).length) : Nat) : Int) = n
    rw [List.take_length, decA_num]; omega
  · intro _ h0
    have e : (decB n)[0] = c := by
      simp only [hd]
      show (decA n.natAbs)[0] = c
      simp only [hc]; rfl
    rw [e]; exact hn
  · intro i h
    have e : (decB n)[i] = (decA n.natAbs)[i]'(by omega) := by
      simp only [hd]; rfl
    rw [e]
    exact digC_yes (decA_dig n.natAbs _ (List.getElem_mem _))

theorem put1 (c : SC) (dm : ByteArray) (h : c.dm = ⟨#[]⟩) : (o1 dm).foldl scPut c = { c with dm := dm } := by
  unfold o1; split
  · rename_i e; rw [nil_of e, ← h]; rfl
  · show scPut c (nDomain ++ equ ++ dm) = _
    unfold scPut
    rw [pair_mid dm (a := nDomain) (by decide), if_pos (by rw [Lib.toList_data]; dsimp only; decide)]
theorem put2 (c : SC) (pa : ByteArray) (h : c.pa = ⟨#[]⟩) : (o2 pa).foldl scPut c = { c with pa := pa } := by
  unfold o2; split
  · rename_i e; rw [nil_of e, ← h]; rfl
  · show scPut c (nPath ++ equ ++ pa) = _
    unfold scPut
    rw [pair_mid pa (a := nPath) (by decide), if_neg (by rw [Lib.toList_data]; dsimp only; decide), if_pos (by rw [Lib.toList_data]; dsimp only; decide)]
theorem put3 (c : SC) (ag : Int) (h : c.ag = -1) (h1 : -1 ≤ ag) (h2 : ag ≤ 1000000) : (o3 ag).foldl scPut c = { c with ag := ag } := by
  unfold o3; split
  · show scPut c (nAge ++ equ ++ decB ag) = _
    unfold scPut
    rw [pair_mid (decB ag) (a := nAge) (by decide), if_neg (by rw [Lib.toList_data]; dsimp only; decide), if_neg (by rw [Lib.toList_data]; dsimp only; decide), if_pos (by rw [Lib.toList_data]; dsimp only; decide), age_back ag (by omega) h2]
  · have e : ag = -1 := by omega
    rw [e, ← h]; rfl
theorem put4 (c : SC) (se : Bool) (h : c.se = false) : (o4 se).foldl scPut c = { c with se := se } := by
  unfold o4; split
  · rename_i e
    show scPut c nSecure = _
    unfold scPut
    rw [pair_nowhere (a := nSecure) (by decide), if_neg (by rw [Lib.toList_data]; dsimp only; decide), if_neg (by rw [Lib.toList_data]; dsimp only; decide), if_neg (by rw [Lib.toList_data]; dsimp only; decide), if_pos (by rw [Lib.toList_data]; dsimp only; decide), e]
  · rename_i e
    rw [Bool.eq_false_iff.mpr e, ← h]; rfl
theorem put5 (c : SC) (mo : Int) (h : c.mo = 0) (hm : modeB mo = true) : (o5 mo).foldl scPut c = { c with mo := mo } := by
  unfold o5; split
  · rename_i e
    show scPut c (nSame ++ equ ++ vStrict) = _
    unfold scPut
    rw [pair_mid vStrict (a := nSame) (by decide), if_neg (by rw [Lib.toList_data]; dsimp only; decide), if_neg (by rw [Lib.toList_data]; dsimp only; decide), if_neg (by rw [Lib.toList_data]; dsimp only; decide), if_neg (by rw [Lib.toList_data]; dsimp only; decide), if_neg (by rw [Lib.toList_data]; dsimp only; decide), if_pos (by rw [Lib.toList_data]; dsimp only; decide), if_pos (by rw [Lib.toList_data]; dsimp only; decide), e]
  · split
    · rename_i e
      show scPut c (nSame ++ equ ++ vNone) = _
      unfold scPut
      rw [pair_mid vNone (a := nSame) (by decide), if_neg (by rw [Lib.toList_data]; dsimp only; decide), if_neg (by rw [Lib.toList_data]; dsimp only; decide), if_neg (by rw [Lib.toList_data]; dsimp only; decide), if_neg (by rw [Lib.toList_data]; dsimp only; decide), if_neg (by rw [Lib.toList_data]; dsimp only; decide), if_pos (by rw [Lib.toList_data]; dsimp only; decide), if_neg (by rw [Lib.toList_data]; dsimp only; decide), e]
    · unfold modeB at hm
      rw [Bool.and_eq_true, decide_eq_true_eq, decide_eq_true_eq] at hm
      have e : mo = 0 := by omega
      rw [e, ← h]; rfl
theorem put6 (c : SC) (pt : Bool) (h : c.pt = false) : (o6 pt).foldl scPut c = { c with pt := pt } := by
  unfold o6; split
  · rename_i e
    show scPut c nParted = _
    unfold scPut
    rw [pair_nowhere (a := nParted) (by decide), if_neg (by rw [Lib.toList_data]; dsimp only; decide), if_neg (by rw [Lib.toList_data]; dsimp only; decide), if_neg (by rw [Lib.toList_data]; dsimp only; decide), if_neg (by rw [Lib.toList_data]; dsimp only; decide), if_pos (by rw [Lib.toList_data]; dsimp only; decide), e]
  · rename_i e
    rw [Bool.eq_false_iff.mpr e, ← h]; rfl
/-- the pieces of a right one's text -/
theorem set_pieces (na va dm pa : ByteArray) (ag : Int) (se : Bool) (mo : Int) (pt : Bool) (h : setB na va dm pa ag mo = true) : piecesL (setT na va dm pa ag se mo pt) = (na ++ equ ++ va) :: (o1 dm ++ o2 pa ++ o3 ag ++ o4 se ++ o5 mo ++ o6 pt) ∧ Lacks na 61 ∧ -1 ≤ ag ∧ ag ≤ 1000000 ∧ modeB mo = true := by
  have h' := h
  unfold setB ageB at h'
  simp only [Bool.and_eq_true, decide_eq_true_eq] at h'
  obtain ⟨⟨⟨⟨⟨⟨_, w1⟩, w2⟩, w3⟩, w4⟩, w5, w6⟩, w7⟩ := h'
  have L1 := wordB_bytes w1
  have L2 := wordB_bytes w2
  have L3 := orB_bytes w3 host_bytes
  have L4 := orB_bytes w4 path_bytes
  refine ⟨?_, L1.2, w5, w6, w7⟩
  rw [setT_flat]
  refine pieces_flat _ _ ((L1.1.app (by decide)).app L2.1) ?_
  intro q hq
  simp only [List.mem_append] at hq
  rcases hq with ((((hq | hq) | hq) | hq) | hq) | hq
  · unfold o1 at hq; split at hq
    · cases hq
    · rw [List.mem_singleton] at hq; subst hq; exact Lacks.app (by decide) L3
  · unfold o2 at hq; split at hq
    · cases hq
    · rw [List.mem_singleton] at hq; subst hq; exact Lacks.app (by decide) L4
  · unfold o3 at hq; split at hq
    · rw [List.mem_singleton] at hq; subst hq; exact Lacks.app (by decide) (dec_bytes ag (by omega))
    · cases hq
  · unfold o4 at hq; split at hq
    · rw [List.mem_singleton] at hq; subst hq; decide
    · cases hq
  · unfold o5 at hq; split at hq
    · rw [List.mem_singleton] at hq; subst hq; decide
    · split at hq
      · rw [List.mem_singleton] at hq; subst hq; decide
      · cases hq
  · unfold o6 at hq; split at hq
    · rw [List.mem_singleton] at hq; subst hq; decide
    · cases hq
/-- a right one is read back from its text -/
theorem set_back (na va dm pa : ByteArray) (ag : Int) (se : Bool) (mo : Int) (pt : Bool) (h : setB na va dm pa ag mo = true) : scRead (setT na va dm pa ag se mo pt) = ⟨na, va, dm, pa, ag, se, mo, pt⟩ := by
  obtain ⟨hp, L1, w5, w6, w7⟩ := set_pieces na va dm pa ag se mo pt h
  unfold scRead
  rw [hp, List.length_cons, Nat.add_sub_cancel, scTo_foldl _ _ _ (Nat.le_refl _), List.take_length, pair_mid va L1]
  simp only [List.foldl_append]
  rw [put1 _ dm rfl, put2 _ pa rfl, put3 _ ag rfl w5 w6, put4 _ se rfl, put5 _ mo rfl w7, put6 _ pt rfl]
theorem set_got (na va dm pa : ByteArray) (ag : Int) (se : Bool) (mo : Int) (pt : Bool) (h : setB na va dm pa ag mo = true) (hz : (setT na va dm pa ag se mo pt).size ≤ 8000) : scGot (setTx na va dm pa ag se mo pt) = (⟨na, va, dm, pa, ag, se, mo, pt⟩, 0) := by
  have e : setTx na va dm pa ag se mo pt = setT na va dm pa ag se mo pt := by unfold setTx; rw [if_pos h]
  have b := set_back na va dm pa ag se mo pt h
  have hne : (setT na va dm pa ag se mo pt).toList.isEmpty = false := by
    rw [setT_flat, Lib.toList_data]
    show ((na ++ equ ++ va ++ flat _).data.toList).isEmpty = false
    rw [← Bool.not_eq_true, List.isEmpty_iff]
    intro hh
    have := congrArg List.length hh
    simp [equ] at this
  unfold scGot
  rw [e, if_neg (by omega), if_pos, b]
  unfold scOk scTx
  rw [b, hne]
  simp only [e]
  simp
end Go.Proofs.YthcpmbolnmlohaaGreatDoor

/- A slice of elements of several cells each. -/
namespace Go.Proofs.YthcpmbolnmlohaaGreatDoor
open Go.RowKit

/-- a slice of n elements of sz cells each, f of each place and cell, that lies from block B on -/
def SliceR (w : World) (B sz : Nat) (v : Value) (n : Nat) (f : Nat → Nat → Value) : Prop :=
  ∃ p cap, v = .slice p n cap ∧ (0 < n → ∃ g, p = some ⟨g, 0, none⟩ ∧ B ≤ g ∧ g < w.heap.size ∧ ∀ j, j < n → ∀ o, o < sz → w.cell? ⟨g, j * sz + o, none⟩ = some (f j o) ∧ w.frozen? ⟨g, j * sz + o, none⟩ = false)
theorem SliceR.below {w w' : World} {B sz n : Nat} {v : Value} {f : Nat → Nat → Value} (h : SliceR w B sz v n f) (hb : Below w.heap.size w w') : SliceR w' B sz v n f := by
  obtain ⟨p, cap, rfl, h⟩ := h
  refine ⟨p, cap, rfl, fun hn => ?_⟩
  obtain ⟨g, rfl, hB, hg, hc⟩ := h hn
  have hs := hb.size
  refine ⟨g, rfl, hB, by omega, fun j hj o ho => ⟨?_, ?_⟩⟩
  · rw [(bcell hb).1 _ _ hg]; exact (hc j hj o ho).1
  · rw [(bcell hb).2 _ _ hg]; exact (hc j hj o ho).2
/-- a row below B' stays while rows from B' on are written -/
theorem SliceR.kept {w w' : World} {B B' sz n : Nat} {v : Value} {f : Nat → Nat → Value} (h : SliceR w B sz v n f) (hb : Below B' w w') (hlt : 0 < n → ∀ g cap m, v = .slice (some ⟨g, 0, none⟩) m cap → g < B') : SliceR w' B sz v n f := by
  obtain ⟨p, cap, rfl, h⟩ := h
  refine ⟨p, cap, rfl, fun hn => ?_⟩
  obtain ⟨g, rfl, hB, hg, hc⟩ := h hn
  have hs := hb.size
  have hl := hlt hn g cap n rfl
  refine ⟨g, rfl, hB, by omega, fun j hj o ho => ⟨?_, ?_⟩⟩
  · rw [hb.cell (p := ⟨g, j * sz + o, none⟩) hl]; exact (hc j hj o ho).1
  · rw [hb.frozen (p := ⟨g, j * sz + o, none⟩) hl]; exact (hc j hj o ho).2
theorem SliceR.lt {w : World} {B sz n : Nat} {v : Value} {f : Nat → Nat → Value} (h : SliceR w B sz v n f) : 0 < n → ∀ g cap m, v = .slice (some ⟨g, 0, none⟩) m cap → g < w.heap.size := by
  obtain ⟨p, cap, rfl, h⟩ := h
  intro hn
  obtain ⟨g, rfl, hB, hg, hc⟩ := h hn
  intro g' cap' m e
  injection e with e1
  injection e1 with e1
  injection e1 with e1
  omega
theorem SliceR.mono {w : World} {B B' sz n : Nat} {v : Value} {f : Nat → Nat → Value} (h : SliceR w B sz v n f) (hB : B' ≤ B) : SliceR w B' sz v n f := by
  obtain ⟨p, cap, rfl, h⟩ := h
  refine ⟨p, cap, rfl, fun hn => ?_⟩
  obtain ⟨g, rfl, h1, h2⟩ := h hn
  exact ⟨g, rfl, by omega, h2⟩
theorem sliceR_none (w : World) (B sz : Nat) (p : Option Addr) (cap : Nat) (f : Nat → Nat → Value) : SliceR w B sz (.slice p 0 cap) 0 f := ⟨p, cap, rfl, fun h => absurd h (by omega)⟩
/-- a row that is owned, as a slice -/
theorem sliceR_of_own {w : World} {B sz n : Nat} {t : TypeId} {v : Value} {xs : List Value} {f : Nat → Nat → Value} (h : w.ownsRow B t sz v n xs) (hf : ∀ j, j < n → ∀ o, o < sz → xs[j * sz + o]? = some (f j o)) : SliceR w B sz v n f := by
  obtain ⟨h1, ⟨rfl, h0⟩ | ⟨g, cap, cur, rfl, hg, h3, h4, h5, h6, h7⟩⟩ := h
  · exact ⟨.none, 0, by rw [h0], fun h => absurd h (by omega)⟩
  · refine ⟨_, cap, rfl, fun hn => ⟨g, rfl, hg, (Array.getElem?_eq_some_iff.mp h3).1, fun j hj o ho => ?_⟩⟩
    have hlt : j * sz + o < n * sz := by
      have : (j + 1) * sz ≤ n * sz := Nat.mul_le_mul_right sz hj
      rw [Nat.add_mul, Nat.one_mul] at this; omega
    have e : cur[j * sz + o]? = some (f j o) := by
      have e1 : (cur.toList.take (n * sz))[j * sz + o]? = xs[j * sz + o]? := by rw [h7]
      rw [List.getElem?_take_of_lt hlt] at e1
      rw [← Array.getElem?_toList, e1]
      exact hf j hj o ho
    exact ⟨by simp [World.cell?, h3, e], by simp [World.frozen?, h3]⟩
theorem ownR_below {w w' : World} {B n sz : Nat} {e : TypeId} {v : Value} {xs : List Value} (h : w.ownsRow B e sz v n xs) (hb : Below w.heap.size w w') : w'.ownsRow B e sz v n xs := by
  obtain ⟨hl, h0 | ⟨g, cap, cur, rfl, hbg, hh, r⟩⟩ := h
  · exact ⟨hl, .inl h0⟩
  · have hg : g < w.heap.size := (Array.getElem?_eq_some_iff.mp hh).1
    exact ⟨hl, .inr ⟨g, cap, cur, rfl, hbg, by rw [hb.block g hg]; exact hh, r⟩⟩
end Go.Proofs.YthcpmbolnmlohaaGreatDoor

/- The walk of the specification's l04PairRight. -/
namespace Go.Proofs.YthcpmbolnmlohaaGreatDoor
open Go.RowKit

def pairV (na va : ByteArray) : Value := .agg #[.string na, .string va]
def pairB (na va : ByteArray) : Bool := !na.toList.isEmpty && wordB na && wordB va
set_option maxRecDepth 10000 in
set_option maxHeartbeats 2000000 in
theorem specPairRight_any (na va : ByteArray) (w : World) (hna : na.size ≤ 1048576) (hva : va.size ≤ 1048576) :
    Calls Tryz.prog 46 #[pairV na va] w fun e w' => e = .returned (.bool (pairB na va)) ∧ Below w.heap.size w w' := by
  have K1 : Hid (∀ W, Calls Tryz.prog 14 #[.string na] W fun e w' => e = .returned (.bool (wordB na)) ∧ w' = W) := fun W => specWord_any na W hna
  have K2 : Hid (∀ W, Calls Tryz.prog 14 #[.string va] W fun e w' => e = .returned (.bool (wordB va)) ∧ w' = W) := fun W => specWord_any va W hva
  have HP : Hid (pairB na va = (!na.toList.isEmpty && wordB na && wordB va)) := rfl
  generalize pairB na va = R at *
  generalize wordB na = b1 at *
  generalize wordB va = b2 at *
  unfold pairV
  clear hna hva
  cases he : na.toList.isEmpty with
  | true =>
    have HR : Hid (R = false) := by show _ = _; rw [HP.out, he]; rfl
    go_enter Tryz.func46, Tryz.ntmps46
    go_wp2
    go_ret
    exact ⟨ret_bool HR.out.symm, (Below.refl _ _).alloc (Nat.le_refl _) _⟩
  | false =>
    cases b1 with
    | false =>
      have HR : Hid (R = false) := by show _ = _; rw [HP.out, he]; rfl
      go_enter Tryz.func46, Tryz.ntmps46
      go_wp2_with fail
      refine (K1.out _).mono ?_
      rintro e w1 ⟨rfl, rfl⟩
      go_wp2
      go_ret
      exact ⟨ret_bool HR.out.symm, (Below.refl _ _).alloc (Nat.le_refl _) _⟩
    | true =>
      have HR : Hid (R = b2) := by show _ = _; rw [HP.out, he]; cases b2 <;> rfl
      go_enter Tryz.func46, Tryz.ntmps46
      go_wp2_with fail
      refine (K1.out _).mono ?_
      rintro e w1 ⟨rfl, rfl⟩
      go_wp2_with fail
      refine (K2.out _).mono ?_
      rintro e w2 ⟨rfl, rfl⟩
      go_wp2
      go_ret
      exact ⟨ret_bool HR.out.symm, (Below.refl _ _).alloc (Nat.le_refl _) _⟩
end Go.Proofs.YthcpmbolnmlohaaGreatDoor

/- Pairs, their text, what is read of a text, as plain functions. -/
namespace Go.Proofs.YthcpmbolnmlohaaGreatDoor
open Go.RowKit

/-- a pair's two cells -/
def pairC (f : Nat → ByteArray × ByteArray) (j o : Nat) : Value := if o = 0 then .string (f j).1 else .string (f j).2
/-- the cells of pairs -/
def pairCells : List (ByteArray × ByteArray) → List Value
  | [] => []
  | p :: L => .string p.1 :: .string p.2 :: pairCells L
def atP (L : List (ByteArray × ByteArray)) (j : Nat) : ByteArray × ByteArray := L.getD j (⟨#[]⟩, ⟨#[]⟩)
theorem pairCells_snoc (L : List (ByteArray × ByteArray)) (p : ByteArray × ByteArray) : pairCells L ++ [.string p.1, .string p.2] = pairCells (L ++ [p]) := by
  induction L with
  | nil => rfl
  | cons q L ih => simp only [pairCells, List.cons_append, ih]
theorem pairCells_len (L : List (ByteArray × ByteArray)) : (pairCells L).length = L.length * 2 := by
  induction L with
  | nil => rfl
  | cons q L ih => simp only [pairCells, List.length_cons, ih]; omega
theorem pairCells_at : ∀ (L : List (ByteArray × ByteArray)) (j : Nat), j < L.length → ∀ o, o < 2 → (pairCells L)[j * 2 + o]? = some (pairC (atP L) j o)
  | [], j, h, _, _ => by simp at h
  | p :: L, 0, _, o, ho => by
    rcases (show o = 0 ∨ o = 1 by omega) with rfl | rfl <;> simp [pairCells, pairC, atP]
  | p :: L, j + 1, h, o, ho => by
    have ih := pairCells_at L j (by simpa using h) o ho
    have e : (j + 1) * 2 + o = (j * 2 + o) + 1 + 1 := by omega
    rw [e, pairCells, List.getElem?_cons_succ, List.getElem?_cons_succ, ih]
    simp [pairC, atP]
/-- pairs as a slice -/
def SliceP (w : World) (B : Nat) (v : Value) (L : List (ByteArray × ByteArray)) : Prop := SliceR w B 2 v L.length (pairC (atP L))
theorem sliceP_of_own {w : World} {B : Nat} {t : TypeId} {v : Value} {L : List (ByteArray × ByteArray)} (h : w.ownsRow B t 2 v L.length (pairCells L)) : SliceP w B v L := sliceR_of_own h (pairCells_at L)

def pairT (p : ByteArray × ByteArray) : ByteArray := p.1 ++ equ ++ p.2
/-- pairs' texts with '; ' between -/
def joinP : List (ByteArray × ByteArray) → ByteArray
  | [] => ⟨#[]⟩
  | p :: L => pairT p ++ flat (L.map pairT)
def pairsB (L : List (ByteArray × ByteArray)) : Bool := decide (L.length ≤ 20) && L.all (fun p => pairB p.1 p.2)
/-- what PairsText tells -/
def pairsT (L : List (ByteArray × ByteArray)) : ByteArray := if pairsB L = true then joinP L else ⟨#[]⟩
/-- what PairsRead tells -/
def pairsGot (t : ByteArray) : List (ByteArray × ByteArray) × Int :=
  if 8000 < t.size then ([], 2) else if t.toList.isEmpty = true then ([], 0) else if ((pairsT ((piecesL t).map pairP)).toList == t.toList) = true then ((piecesL t).map pairP, 0) else ([], 3)
theorem joinP_snoc (L : List (ByteArray × ByteArray)) (p : ByteArray × ByteArray) (h : L ≠ []) : joinP (L ++ [p]) = joinP L ++ semi ++ pairT p := by
  cases L with
  | nil => exact absurd rfl h
  | cons q L =>
    show pairT q ++ flat ((L ++ [p]).map pairT) = pairT q ++ flat (L.map pairT) ++ semi ++ pairT p
    rw [List.map_append, flat_app, List.map_singleton, flat_one]
    simp only [ByteArray.append_assoc]
theorem pairsB_many {L : List (ByteArray × ByteArray)} (h : 20 < L.length) : pairsB L = false := by
  unfold pairsB; rw [decide_eq_false (by omega)]; rfl
theorem atP_eq {L : List (ByteArray × ByteArray)} {k : Nat} (h : k < L.length) : atP L k = L[k] := by simp [atP, h]
theorem pairsB_at {L : List (ByteArray × ByteArray)} (k : Nat) (h : k < L.length) (hk : pairB (atP L k).1 (atP L k).2 = false) : pairsB L = false := by
  have : L.all (fun p => pairB p.1 p.2) = false := by
    rw [List.all_eq_false]
    exact ⟨L[k], List.getElem_mem h, by rw [← atP_eq h, hk]; decide⟩
  unfold pairsB; rw [this, Bool.and_false]
theorem pairsB_all {L : List (ByteArray × ByteArray)} (h20 : L.length ≤ 20) (h : ∀ k, k < L.length → pairB (atP L k).1 (atP L k).2 = true) : pairsB L = true := by
  have : L.all (fun p => pairB p.1 p.2) = true := by
    rw [List.all_eq_true]
    intro p hp
    obtain ⟨k, hk, rfl⟩ := List.getElem_of_mem hp
    rw [← atP_eq hk]; exact h k hk
  unfold pairsB; rw [this, decide_eq_true h20]; rfl
theorem pairB_small {na va : ByteArray} (h : pairB na va = true) : na.size ≤ 20 ∧ va.size ≤ 20 := by
  unfold pairB at h
  rw [Bool.and_eq_true, Bool.and_eq_true] at h
  exact ⟨wordB_size h.1.2, wordB_size h.2⟩
end Go.Proofs.YthcpmbolnmlohaaGreatDoor
