/- 23 of this claim's texts, one behind the other. -/
import Derived.Test.YtaccgciopmclhaaGreatDoorPart4
import Derived.Test.YtaccgciopmclhaaGreatDoorPart6
import Derived.Test.YtaccgciopmclhaaGreatDoorPart8
import Derived.Test.YtaccgciopmclhaaGreatDoorPart9
import Derived.Test.YtaccgciopmclhaaGreatDoorPart10
import Derived.Test.YtaccgciopmclhaaGreatDoorPart12
import Derived.Test.YtaccgciopmclhaaGreatDoorPart2
import Derived.Maps.Own
import Derived.Maps.OwnOps
import Derived.Maps.OwnSet
import Derived.Maps.Views
import Derived.Test.YtaccgciopmclhaaGreatDoorPart1
import Derived.Deep.RegionHeld3
import Derived.Deep.DeepCutAuto
import Derived.Laws.ResultCell
import Derived.Test.YtaccgciopmclhaaGreatDoorPart7
import Derived.Lib.IndexAny
import Derived.Deep.LoopGhost
import Derived.Maps.AppendAt
import Derived.Lib.Join
import Derived.Test.YtaccgciopmclhaaGreatDoorShelf
import Derived.Shelf.Strings.OnBuilder
/- The walk of the specification's WorldRight. Written by worldright.py. -/
namespace Go.Proofs.YtaccgciopmclhaaGreatDoor
open Go.RowKit

set_option maxRecDepth 10000 in
set_option maxHeartbeats 8000000 in
theorem specWorldRight_any (r s f j e' g : Value) (B : Nat) (x : Wd) (w : World) (ha : WdAt w B r s f j e' g x) (hz : szW x) :
    Calls Tryz.prog 7 #[wdV r s f j e' g x.now] w fun e w' => e = .returned (.bool (worldB x)) ∧ Below w.heap.size w w' := by
  obtain ⟨p0, p1, p2, p3, p4, p5, c0, c1, c2, c3, c4, c5, rfl, rfl, rfl, rfl, rfl, rfl⟩ := ha.shape
  have KR : Hid (∀ W, Below w.heap.size w W → Calls Tryz.prog 25 #[.slice p0 x.n c0] W fun e w' => e = .returned (.bool (rulesB x.n x.f)) ∧ Below W.heap.size W w') := fun W hb => specRules_any _ x.n B x.f W (ha.below hb).1 hz.1.1 hz.1.2
  have KS : Hid (∀ W, Below w.heap.size w W → Calls Tryz.prog 26 #[.slice p0 x.n c0, .slice p1 x.S.length c1] W fun e w' => e = .returned (.bool (setsB x.n x.f x.S)) ∧ Below W.heap.size W w') := fun W hb => specSetsRight_any _ x.n B x.f _ x.S B W (ha.below hb).1 hz.1.1 hz.1.2 (ha.below hb).2.1 hz.2.1.1 (fun j hj => (hz.2.1.2 j hj).2.1)
  have KF : Hid (∀ W, Below w.heap.size w W → Calls Tryz.prog 27 #[.slice p2 x.F.length c2] W fun e w' => e = .returned (.bool (framesB x.F)) ∧ Below W.heap.size W w') := fun W hb => specFrames_any _ x.F B W (ha.below hb).2.2.1 hz.2.2.1.1
  have KJ : Hid (∀ W, Below w.heap.size w W → Calls Tryz.prog 28 #[.slice p3 x.J.length c3] W fun e w' => e = .returned (.bool (jarB x.J)) ∧ Below W.heap.size W w') := fun W hb => specJar_any _ x.J B W (ha.below hb).2.2.2.1 hz.2.2.2.1.1 (fun i hi => by have := hz.2.2.2.1.2 i hi; omega)
  have KE : Hid (∀ W, Below w.heap.size w W → Calls Tryz.prog 29 #[.slice p4 x.E.length c4] W fun e w' => e = .returned (.bool (areaB x.E)) ∧ Below W.heap.size W w') := fun W hb => specArea_any _ x.E B W (ha.below hb).2.2.2.2.1 hz.2.2.2.2.1.1 (fun i hi => by have := hz.2.2.2.2.1.2 i hi; omega)
  have KG : Hid (∀ W, Below w.heap.size w W → Calls Tryz.prog 30 #[.slice p5 x.G.length c5] W fun e w' => e = .returned (.bool (grantsB x.G)) ∧ Below W.heap.size W w') := fun W hb => specGrants_any _ x.G B W (ha.below hb).2.2.2.2.2 hz.2.2.2.2.2.1
  have KT : Hid (∀ W, Calls Tryz.prog 31 #[.int .i64 x.now] W fun e w' => e = .returned (.bool (tmF x.now)) ∧ w' = W) := fun W => specTime9_any x.now W
  have HQ : Hid (worldB x = (setsB x.n x.f x.S && framesB x.F && jarB x.J && areaB x.E && grantsB x.G && tmF x.now)) := rfl
  have HR : Hid (rulesB x.n x.f = false → worldB x = false) := worldB_rules
  obtain ⟨W0, hW⟩ : ∃ W0, W0 = w.alloc (.cells #[.slice p0 x.n c0, .slice p1 x.S.length c1, .slice p2 x.F.length c2, .slice p3 x.J.length c3, .slice p4 x.E.length c4, .slice p5 x.G.length c5, .int .i64 x.now] 38) := ⟨_, rfl⟩
  have hW0 : Hid (W0 = w.alloc (.cells #[.slice p0 x.n c0, .slice p1 x.S.length c1, .slice p2 x.F.length c2, .slice p3 x.J.length c3, .slice p4 x.E.length c4, .slice p5 x.G.length c5, .int .i64 x.now] 38)) := hW
  have X0 : Hid (BoxV W0 w.heap.size [.slice p0 x.n c0, .slice p1 x.S.length c1, .slice p2 x.F.length c2, .slice p3 x.J.length c3, .slice p4 x.E.length c4, .slice p5 x.G.length c5, .int .i64 x.now]) := by show BoxV _ _ _; rw [hW]; exact boxV_new w [.slice p0 x.n c0, .slice p1 x.S.length c1, .slice p2 x.F.length c2, .slice p3 x.J.length c3, .slice p4 x.E.length c4, .slice p5 x.G.length c5, .int .i64 x.now] 38
  have B0 : Hid (Below w.heap.size w W0) := by show Below _ _ _; rw [hW]; exact (Below.refl _ _).alloc (Nat.le_refl _) _
  clear hW ha hz
  unfold wdV
  generalize rulesB x.n x.f = b0 at *
  generalize setsB x.n x.f x.S = b1 at *
  generalize framesB x.F = b2 at *
  generalize jarB x.J = b3 at *
  generalize areaB x.E = b4 at *
  generalize grantsB x.G = b5 at *
  generalize tmF x.now = b6 at *
  generalize worldB x = R at *
  go_enter Tryz.func7, Tryz.ntmps7
  go_upto_region 1 with fail
  rw [← hW0.out]
  clear hW0
  have x0_0 : W0.cell? ⟨w.heap.size, 0, none⟩ = some (.slice p0 x.n c0) := X0.out.at (i := 0) rfl
  go_wp2_with fail
  refine (KR.out _ B0.out).mono ?_
  rintro e w1 ⟨rfl, hb1⟩
  have X1 : Hid (BoxV w1 w.heap.size [.slice p0 x.n c0, .slice p1 x.S.length c1, .slice p2 x.F.length c2, .slice p3 x.J.length c3, .slice p4 x.E.length c4, .slice p5 x.G.length c5, .int .i64 x.now]) := X0.out.below hb1
  have B1 : Hid (Below w.heap.size w w1) := B0.out.trans (hb1.mono B0.out.size)
  clear hb1 X0 x0_0
  cases b0 with
  | false =>
    go_wp2
    go_ret
    exact ⟨ret_bool (by have h := HR.out; simp at h; simp [h]), B1.out⟩
  | true =>
  have x1_0 : w1.cell? ⟨w.heap.size, 0, none⟩ = some (.slice p0 x.n c0) := X1.out.at (i := 0) rfl
  have x1_1 : w1.cell? ⟨w.heap.size, 1, none⟩ = some (.slice p1 x.S.length c1) := X1.out.at (i := 1) rfl
  go_wp2_with fail
  refine (KS.out _ B1.out).mono ?_
  rintro e w2 ⟨rfl, hb2⟩
  have X2 : Hid (BoxV w2 w.heap.size [.slice p0 x.n c0, .slice p1 x.S.length c1, .slice p2 x.F.length c2, .slice p3 x.J.length c3, .slice p4 x.E.length c4, .slice p5 x.G.length c5, .int .i64 x.now]) := X1.out.below hb2
  have B2 : Hid (Below w.heap.size w w2) := B1.out.trans (hb2.mono B1.out.size)
  clear hb2 X1 x1_0 x1_1
  cases b1 with
  | false =>
    go_wp2
    go_ret
    exact ⟨ret_bool (by rw [HQ.out]; simp), B2.out⟩
  | true =>
  have x2_2 : w2.cell? ⟨w.heap.size, 2, none⟩ = some (.slice p2 x.F.length c2) := X2.out.at (i := 2) rfl
  go_wp2_with fail
  refine (KF.out _ B2.out).mono ?_
  rintro e w3 ⟨rfl, hb3⟩
  have X3 : Hid (BoxV w3 w.heap.size [.slice p0 x.n c0, .slice p1 x.S.length c1, .slice p2 x.F.length c2, .slice p3 x.J.length c3, .slice p4 x.E.length c4, .slice p5 x.G.length c5, .int .i64 x.now]) := X2.out.below hb3
  have B3 : Hid (Below w.heap.size w w3) := B2.out.trans (hb3.mono B2.out.size)
  clear hb3 X2 x2_2
  cases b2 with
  | false =>
    go_wp2
    go_ret
    exact ⟨ret_bool (by rw [HQ.out]; simp), B3.out⟩
  | true =>
  have x3_3 : w3.cell? ⟨w.heap.size, 3, none⟩ = some (.slice p3 x.J.length c3) := X3.out.at (i := 3) rfl
  go_wp2_with fail
  refine (KJ.out _ B3.out).mono ?_
  rintro e w4 ⟨rfl, hb4⟩
  have X4 : Hid (BoxV w4 w.heap.size [.slice p0 x.n c0, .slice p1 x.S.length c1, .slice p2 x.F.length c2, .slice p3 x.J.length c3, .slice p4 x.E.length c4, .slice p5 x.G.length c5, .int .i64 x.now]) := X3.out.below hb4
  have B4 : Hid (Below w.heap.size w w4) := B3.out.trans (hb4.mono B3.out.size)
  clear hb4 X3 x3_3
  cases b3 with
  | false =>
    go_wp2
    go_ret
    exact ⟨ret_bool (by rw [HQ.out]; simp), B4.out⟩
  | true =>
  have x4_4 : w4.cell? ⟨w.heap.size, 4, none⟩ = some (.slice p4 x.E.length c4) := X4.out.at (i := 4) rfl
  go_wp2_with fail
  refine (KE.out _ B4.out).mono ?_
  rintro e w5 ⟨rfl, hb5⟩
  have X5 : Hid (BoxV w5 w.heap.size [.slice p0 x.n c0, .slice p1 x.S.length c1, .slice p2 x.F.length c2, .slice p3 x.J.length c3, .slice p4 x.E.length c4, .slice p5 x.G.length c5, .int .i64 x.now]) := X4.out.below hb5
  have B5 : Hid (Below w.heap.size w w5) := B4.out.trans (hb5.mono B4.out.size)
  clear hb5 X4 x4_4
  cases b4 with
  | false =>
    go_wp2
    go_ret
    exact ⟨ret_bool (by rw [HQ.out]; simp), B5.out⟩
  | true =>
  have x5_5 : w5.cell? ⟨w.heap.size, 5, none⟩ = some (.slice p5 x.G.length c5) := X5.out.at (i := 5) rfl
  go_wp2_with fail
  refine (KG.out _ B5.out).mono ?_
  rintro e w6 ⟨rfl, hb6⟩
  have X6 : Hid (BoxV w6 w.heap.size [.slice p0 x.n c0, .slice p1 x.S.length c1, .slice p2 x.F.length c2, .slice p3 x.J.length c3, .slice p4 x.E.length c4, .slice p5 x.G.length c5, .int .i64 x.now]) := X5.out.below hb6
  have B6 : Hid (Below w.heap.size w w6) := B5.out.trans (hb6.mono B5.out.size)
  clear hb6 X5 x5_5
  cases b5 with
  | false =>
    go_wp2
    go_ret
    exact ⟨ret_bool (by rw [HQ.out]; simp), B6.out⟩
  | true =>
  have x6_6 : w6.cell? ⟨w.heap.size, 6, none⟩ = some (.int .i64 x.now) := X6.out.at (i := 6) rfl
  go_wp2_with fail
  refine (KT.out _).mono ?_
  rintro e w7 ⟨rfl, e1⟩
  have e2 := e1.symm
  subst e2
  go_wp2
  go_ret
  exact ⟨ret_bool (by rw [HQ.out]; simp), B6.out⟩
end Go.Proofs.YtaccgciopmclhaaGreatDoor

/- The book of domains: a map from texts to places, told by what a look-up answers. -/
namespace Go.Proofs.YtaccgciopmclhaaGreatDoor
open Go.RowKit Go.Maps

def keyD (d : ByteArray) : Lit := .string d.data.toList
theorem keyLitD (d : ByteArray) : WideAt.IsKeyLit (keyD d) := by unfold keyD; trivial
theorem strKeyed : Keyed Tryz.prog 9 := string_keyed Tryz.underlying9
theorem zeroI (w : World) : (zeroValue 3).run Tryz.prog w = .ok (.int .i64 0) w := by kernel_rfl
theorem keyD_eq {a b : ByteArray} (h : (a.toList == b.toList) = true) : keyD a = keyD b := by
  rw [beq_iff_eq, Lib.toList_data, Lib.toList_data] at h
  unfold keyD; rw [h]
theorem keyD_ne {a b : ByteArray} (h : (a.toList == b.toList) = false) : keyD a ≠ keyD b := by
  intro e
  rw [beq_eq_false_iff_ne, Lib.toList_data, Lib.toList_data] at h
  unfold keyD at e
  exact h (Lit.string.inj e)
/-- block bm is a map of at most N entries whose look-ups answer as pl -/
def MapIs (w : World) (bm N : Nat) (pl : ByteArray → Option Nat) : Prop :=
  ∃ D : DataW Unit, w.ownsMap Tryz.prog 9 (plainElem Tryz.prog 3) bm N D ∧ ∀ d : ByteArray, Maps.has D (keyD d) = (pl d).isSome ∧ ∀ p, pl d = some p → D.atKey (keyD d) (.lit (.int .i64 0)) = .lit (.int .i64 (p : Int))
theorem MapIs.kept {w w' : World} {bm N : Nat} {pl : ByteArray → Option Nat} {row : Option Nat} (h : MapIs w bm N pl) (hg : w.grownBy w' row) (hne : some bm ≠ row) : MapIs w' bm N pl := by
  obtain ⟨D, h1, h2⟩ := h
  exact ⟨D, h1.kept hg hne, h2⟩
theorem MapIs.below {w w' : World} {bm N : Nat} {pl : ByteArray → Option Nat} (h : MapIs w bm N pl) (hb : Below w.heap.size w w') : MapIs w' bm N pl := by
  obtain ⟨D, ⟨es, clock, h0, h1⟩, h2⟩ := h
  have hlt : bm < w.heap.size := (Array.getElem?_eq_some_iff.1 h0).1
  exact ⟨D, ⟨es, clock, by rw [hb.block bm hlt]; exact h0, h1⟩, h2⟩
theorem MapIs.lt {w : World} {bm N : Nat} {pl : ByteArray → Option Nat} (h : MapIs w bm N pl) : bm < w.heap.size := by
  obtain ⟨D, h1, _⟩ := h; exact h1.lt
theorem MapIs.ne {w : World} {bm N b o : Nat} {v : Value} {pl : ByteArray → Option Nat} (h : MapIs w bm N pl) (hc : w.cell? ⟨b, o, none⟩ = some v) : b ≠ bm := by
  rintro rfl
  obtain ⟨D, ⟨es, clock, h0, _⟩, _⟩ := h
  simp [World.cell?, h0] at hc
theorem MapIs.mono {w : World} {bm N N' : Nat} {pl : ByteArray → Option Nat} (h : MapIs w bm N pl) (hN : N ≤ N') : MapIs w bm N' pl := by
  obtain ⟨D, h1, h2⟩ := h; exact ⟨D, h1.mono hN, h2⟩
theorem MapIs.congr {w : World} {bm N : Nat} {pl pl' : ByteArray → Option Nat} (h : MapIs w bm N pl) (e : ∀ d, pl d = pl' d) : MapIs w bm N pl' := by
  obtain ⟨D, h1, h2⟩ := h; exact ⟨D, h1, fun d => by rw [← e d]; exact h2 d⟩
theorem mapIs_made (w : World) : MapIs (w.alloc (.map #[] 0)) w.heap.size 0 (fun _ => none) :=
  ⟨.map [], World.ownsMap_made w _ _ _, fun _ => ⟨rfl, fun _ h => by cases h⟩⟩
def putP (pl : ByteArray → Option Nat) (d : ByteArray) (v : Nat) (x : ByteArray) : Option Nat := if (x.toList == d.toList) = true then some v else pl x
def delP (pl : ByteArray → Option Nat) (d : ByteArray) (x : ByteArray) : Option Nat := if (x.toList == d.toList) = true then none else pl x
theorem mapIs_put {w' : World} {bm N v : Nat} {pl : ByteArray → Option Nat} {D : DataW Unit} {d : ByteArray} (hD : IsMap D) (h2 : ∀ d : ByteArray, Maps.has D (keyD d) = (pl d).isSome ∧ ∀ p, pl d = some p → D.atKey (keyD d) (.lit (.int .i64 0)) = .lit (.int .i64 (p : Int)))
    (h1 : w'.ownsMap Tryz.prog 9 (plainElem Tryz.prog 3) bm N (D.put (keyD d) (.lit (.int .i64 (v : Int))))) : MapIs w' bm N (putP pl d v) := by
  refine ⟨_, h1, fun x => ?_⟩
  unfold putP
  cases hx : (x.toList == d.toList) with
  | true =>
    rw [if_pos rfl, keyD_eq hx]
    refine ⟨has_put_same hD (keyLitD _) _, fun p hp => ?_⟩
    obtain rfl := Option.some.inj hp
    exact atKey_put_same hD (keyLitD _) _ _
  | false =>
    rw [if_neg (by decide)]
    exact ⟨by rw [has_put_other (keyD_ne hx)]; exact (h2 x).1, fun p hp => by rw [atKey_put_other (keyD_ne hx)]; exact (h2 x).2 p hp⟩
theorem mapIs_del {w' : World} {bm N : Nat} {pl : ByteArray → Option Nat} {D : DataW Unit} {d : ByteArray} (h2 : ∀ d : ByteArray, Maps.has D (keyD d) = (pl d).isSome ∧ ∀ p, pl d = some p → D.atKey (keyD d) (.lit (.int .i64 0)) = .lit (.int .i64 (p : Int)))
    (h1 : w'.ownsMap Tryz.prog 9 (plainElem Tryz.prog 3) bm N (D.del (keyD d))) : MapIs w' bm N (delP pl d) := by
  refine ⟨_, h1, fun x => ?_⟩
  unfold delP
  cases hx : (x.toList == d.toList) with
  | true =>
    rw [if_pos rfl, keyD_eq hx]
    exact ⟨has_del_same, fun p hp => by cases hp⟩
  | false =>
    rw [if_neg (by decide)]
    exact ⟨by rw [has_del_other (keyD_ne hx)]; exact (h2 x).1, fun p hp => by rw [atKey_del_other (keyD_ne hx)]; exact (h2 x).2 p hp⟩
/-- the first k domains stand at v -/
def plTo (pl : ByteArray → Option Nat) (v : Nat) (D : List ByteArray) : Nat → ByteArray → Option Nat
  | 0 => pl
  | k + 1 => putP (plTo pl v D k) (atL D k) v
/-- the first k domains are gone -/
def dlTo (pl : ByteArray → Option Nat) (D : List ByteArray) : Nat → ByteArray → Option Nat
  | 0 => pl
  | k + 1 => delP (dlTo pl D k) (atL D k)
theorem plTo_eq (pl : ByteArray → Option Nat) (v : Nat) (D : List ByteArray) (x : ByteArray) : ∀ k, (∀ j, j < k → (x.toList == (atL D j).toList) = false) → plTo pl v D k x = pl x
  | 0, _ => rfl
  | k + 1, h => by
    show putP _ _ _ _ = _
    unfold putP
    rw [h k (by omega), if_neg (by decide)]
    exact plTo_eq pl v D x k (fun j hj => h j (by omega))
theorem plTo_in (pl : ByteArray → Option Nat) (v : Nat) (D : List ByteArray) (x : ByteArray) : ∀ k j, j < k → (x.toList == (atL D j).toList) = true → plTo pl v D k x = some v
  | 0, _, h, _ => by omega
  | k + 1, j, h, e => by
    show putP _ _ _ _ = _
    unfold putP
    cases hk : (x.toList == (atL D k).toList) with
    | true => rw [if_pos rfl]
    | false =>
      rw [if_neg (by decide)]
      have hj : j < k := by
        rcases Nat.lt_or_ge j k with h' | h'
        · exact h'
        · have : j = k := by omega
          subst this
          rw [e] at hk; cases hk
      exact plTo_in pl v D x k j hj e
theorem dlTo_none (pl : ByteArray → Option Nat) (D : List ByteArray) (x : ByteArray) : ∀ k j, j < k → (x.toList == (atL D j).toList) = true → dlTo pl D k x = none
  | 0, _, h, _ => by omega
  | k + 1, j, h, e => by
    show delP _ _ _ = _
    unfold delP
    cases hk : (x.toList == (atL D k).toList) with
    | true => rw [if_pos rfl]
    | false =>
      rw [if_neg (by decide)]
      have hj : j < k := by
        rcases Nat.lt_or_ge j k with h' | h'
        · exact h'
        · have : j = k := by omega
          subst this
          rw [e] at hk; cases hk
      exact dlTo_none pl D x k j hj e
theorem dlTo_eq (pl : ByteArray → Option Nat) (D : List ByteArray) (x : ByteArray) : ∀ k, (∀ j, j < k → (x.toList == (atL D j).toList) = false) → dlTo pl D k x = pl x
  | 0, _ => rfl
  | k + 1, h => by
    show delP _ _ _ = _
    unfold delP
    rw [h k (by omega), if_neg (by decide)]
    exact dlTo_eq pl D x k (fun j hj => h j (by omega))
/-- what was put, given back, where none of it was there -/
theorem given_back (pl : ByteArray → Option Nat) (v : Nat) (D : List ByteArray) (k : Nat) (h : ∀ j, j < k → plTo pl v D j (atL D j) = none) (x : ByteArray) : dlTo (plTo pl v D k) D k x = pl x := by
  by_cases he : ∃ j, j < k ∧ (x.toList == (atL D j).toList) = true
  · obtain ⟨j, hj, e⟩ := he
    rw [dlTo_none _ D x k j hj e]
    have h1 := h j hj
    by_cases hp : ∃ i, i < j ∧ ((atL D j).toList == (atL D i).toList) = true
    · obtain ⟨i, hi, e2⟩ := hp
      rw [plTo_in pl v D _ j i hi e2] at h1; cases h1
    · rw [plTo_eq pl v D _ j (fun i hi => by
        cases e2 : ((atL D j).toList == (atL D i).toList) with
        | false => rfl
        | true => exact absurd ⟨i, hi, e2⟩ hp)] at h1
      have ex : x = atL D j := by
        rw [beq_iff_eq, Lib.toList_data, Lib.toList_data] at e
        cases hx : x
        cases hy : atL D j
        rw [hx, hy] at e
        congr 1
        exact Array.toList_inj.1 e
      rw [ex, h1]
  · have hn : ∀ j, j < k → (x.toList == (atL D j).toList) = false := fun j hj => by
      cases e : (x.toList == (atL D j).toList) with
      | false => rfl
      | true => exact absurd ⟨j, hj, e⟩ he
    rw [dlTo_eq _ D x k hn, plTo_eq pl v D x k hn]
/-- each domain is none that is there, nor one ahead of it -/
def newB (pl : ByteArray → Option Nat) (v : Nat) (D : List ByteArray) : Bool := decide (∀ j, j < D.length → plTo pl v D j (atL D j) = none)
end Go.Proofs.YtaccgciopmclhaaGreatDoor

/- The walk of the program's giveBack. -/
namespace Go.Proofs.YtaccgciopmclhaaGreatDoor
open Go.RowKit Go.Maps

theorem grown_trans {a b c : World} {r : Option Nat} (h : a.grownBy b r) (h' : b.grownBy c r) : a.grownBy c r :=
  ⟨h'.os.trans h.os, h'.tape.trans h.tape, h'.output.trans h.output, Nat.le_trans h.size h'.size, fun k hk hne => (h'.block k (Nat.lt_of_lt_of_le hk h.size) hne).trans (h.block k hk hne)⟩
theorem grown_refl (w : World) (r : Option Nat) : w.grownBy w r := ⟨rfl, rfl, rfl, Nat.le_refl _, fun _ _ _ => rfl⟩
theorem grown_below {w w' : World} (h : Below w.heap.size w w') (r : Option Nat) : w.grownBy w' r := ⟨h.os, h.tape, h.output, h.size, fun k hk _ => h.block k hk⟩
theorem grown_cell {w w' : World} {r b o : Nat} {v : Value} (h : w.grownBy w' (some r)) (hc : w.cell? ⟨b, o, none⟩ = some v) (hne : b ≠ r) : w'.cell? ⟨b, o, none⟩ = some v := by
  have hb : b < w.heap.size := World.block_lt_of_cell? w _ hc
  rw [World.cell?_of_block (a := ⟨b, o, none⟩) (h.block b hb (fun e => hne (Option.some.inj e)))]
  exact hc
set_option maxRecDepth 10000 in
set_option maxHeartbeats 4000000 in
theorem giveBack_any (b bm g k cap N : Nat) (D : List ByteArray) (pl : ByteArray → Option Nat) (w : World) (hk : k ≤ D.length) (hD : D.length ≤ 1048576) (hz : ∀ j, j < D.length → (atL D j).size ≤ 1048576)
    (hb2 : w.cell? ⟨b, 2, none⟩ = some (.map (some bm))) (hc : ∀ j, j < k → w.cell? ⟨g, j, none⟩ = some (.string (atL D j))) (hm : MapIs w bm N pl) :
    Calls Tryz.prog 190 #[.pointer (some ⟨b, 0, none⟩), .slice (some ⟨g, 0, none⟩) k cap] w fun e w' => e = .returned (.tuple #[]) ∧ MapIs w' bm N (dlTo pl D k) ∧ w.grownBy w' (some bm) := by
  have HC : Hid (∀ j, j < k → w.cell? ⟨g, j, none⟩ = some (.string (atL D j))) := hc
  have HZ : Hid (∀ j, j < D.length → (atL D j).size ≤ 1048576) := hz
  have HM : Hid (MapIs w bm N pl) := hm
  have hbm : b ≠ bm := hm.ne hb2
  clear hc hz hm
  go_enter Tryz.func190, Tryz.ntmps190
  go_wp2
  go_loopw [8] (fun i wr => ∃ j : Nat, j ≤ k ∧ i = .int .i64 j ∧ Hid (MapIs wr bm N (dlTo pl D j)) ∧ Hid (w.grownBy wr (some bm))) (fun i _ => k - (intOf i).toNat)
  case atStart => exact ⟨0, Nat.zero_le _, rfl, HM, grown_refl _ _⟩
  case round =>
    obtain ⟨j, hj, rfl, HMj, HGj⟩ := hrel
    by_cases hlt : j < k
    · have c0 : wr.cell? ⟨g, j, none⟩ = some (.string (atL D j)) := grown_cell HGj.out (HC.out j hlt) (HM.out.ne (HC.out j hlt))
      have c2 : wr.cell? ⟨b, 2, none⟩ = some (.map (some bm)) := grown_cell HGj.out hb2 hbm
      have j0 : (0 : Int) ≤ j := by omega
      have j1 : (j : Int) < k := by omega
      have HS : Hid ((atL D j).size ≤ maxLen) := by have := HZ.out j (by omega); show _ ≤ _; unfold maxLen; omega
      have HNext : Hid (∀ w', MapIs w' bm N (delP (dlTo pl D j) (atL D j)) → MapIs w' bm N (dlTo pl D (j + 1))) := fun w' h => h
      obtain ⟨DD, hown, hview⟩ := HMj.out
      have HV : Hid (∀ d : ByteArray, Maps.has DD (keyD d) = ((dlTo pl D j) d).isSome ∧ ∀ p, (dlTo pl D j) d = some p → DD.atKey (keyD d) (.lit (.int .i64 0)) = .lit (.int .i64 (p : Int))) := hview
      have HOW : Hid (wr.ownsMap Tryz.prog 9 (plainElem Tryz.prog 3) bm N DD) := hown
      clear hown hview
      generalize atL D j = d at *
      go_wp2_with (at_delete; go_must (refine wpList_delete_own _ rfl _ _ 137 9 rfl 3 strKeyed Tryz.underlying137 _ bm N DD rfl HOW.out _ _ rfl (Go.WideMaps.keyOf_string_mk Tryz.underlying9 HS.out) ?_); intro w1 hown1 hturn1)
      have M1 : Hid (MapIs w1 bm N (dlTo pl D (j + 1))) := HNext.out w1 (mapIs_del HV.out hown1)
      have G1 : Hid (w.grownBy w1 (some bm)) := grown_trans HGj.out hturn1.grown
      clear hown1 hturn1
      go_roundw
      case rel => exact ⟨j + 1, by omega, by go_num, M1, G1⟩
      case measure => simp [intOf]; omega
    · obtain rfl : j = k := by omega
      go_wp2
      (try simp only [Exit.inBlock, Exit.then]); refine bodyPost_end (results_none rfl _ _ _) rfl ?_
      exact ⟨rfl, HMj.out, HGj.out⟩
end Go.Proofs.YtaccgciopmclhaaGreatDoor

/- The walk of the program's take. -/
namespace Go.Proofs.YtaccgciopmclhaaGreatDoor
open Go.RowKit Go.Maps

theorem newB_at {pl : ByteArray → Option Nat} {v : Nat} {D : List ByteArray} (j : Nat) (hj : j < D.length) (h : (plTo pl v D j (atL D j)).isSome = true) : newB pl v D = false := by
  unfold newB
  rw [decide_eq_false_iff_not]
  intro h'
  rw [h' j hj] at h; cases h
theorem newB_all {pl : ByteArray → Option Nat} {v : Nat} {D : List ByteArray} (h : ∀ j, j < D.length → plTo pl v D j (atL D j) = none) : newB pl v D = true := by
  unfold newB; rw [decide_eq_true h]
theorem ownsMap_drew {w : World} {bm N : Nat} {D : DataW Unit} (h : w.ownsMap Tryz.prog 9 (plainElem Tryz.prog 3) bm N D) : w.drew.ownsMap Tryz.prog 9 (plainElem Tryz.prog 3) bm N D := h
theorem grown_drew (w : World) (r : Option Nat) : w.grownBy w.drew r := ⟨rfl, rfl, rfl, Nat.le_refl _, fun _ _ _ => rfl⟩
theorem own_cap {w : World} {B n sz m c : Nat} {e : TypeId} {p : Option Addr} {xs : List Value} (h : w.ownsRow B e sz (.slice p m c) n xs) : n ≤ c := by
  obtain ⟨_, ⟨_, h0⟩ | ⟨g, cap, cur, hv, _, _, hc, _⟩⟩ := h
  · omega
  · injection hv with _ _ e
    omega
/-- an error stands in a package variable -/
def ErrAt (w : World) (g : Nat) : Prop := ∃ ty v, w.cell? ⟨g, 0, none⟩ = some (.iface ty v)
set_option maxRecDepth 10000 in
set_option maxHeartbeats 8000000 in
theorem take_any (b bm N ns sc : Nat) (sp : Option Addr) (x : SetL) (u : Value) (B : Nat) (pl : ByteArray → Option Nat) (w : World) (hs : SliceS w B u x.2.length (atL x.2)) (hM : 0 < x.2.length) (hn : x.2.length ≤ 4) (hz1 : x.1.size ≤ 1048576) (hz : ∀ i, i < x.2.length → (atL x.2 i).size ≤ 1048576)
    (hb1 : w.cell? ⟨b, 1, none⟩ = some (.slice sp ns sc)) (hb2 : w.cell? ⟨b, 2, none⟩ = some (.map (some bm))) (hm : MapIs w bm N pl) (hN : N ≤ 1000) (hns : ns ≤ 1000) (hE : ErrAt w 4) :
    Calls Tryz.prog 173 #[.pointer (some ⟨b, 0, none⟩), .agg #[.string x.1, u]] w fun e w' =>
      ((newB pl ns (allD x) = true ∧ e = .returned .nilIface ∧ MapIs w' bm (N + 5) (plTo pl ns (allD x) (allD x).length)) ∨ (newB pl ns (allD x) = false ∧ (∃ ty v, e = .returned (.iface ty v)) ∧ MapIs w' bm (N + 5) pl)) ∧ w.grownBy w' (some bm) := by
  obtain ⟨p, M⟩ := x
  dsimp only at hs hM hn hz1 hz ⊢
  obtain ⟨i0, hi, hy0, hy1, hy2⟩ := info_parts infoStr2
  have HB : Hid (Below w.heap.size w ((w.alloc (.cells #[.string p, u] 121)).alloc (.cells #[.string p] 9))) := ((Below.refl _ _).alloc (Nat.le_refl _) _).alloc (by simp) _
  have HO : Hid (((w.alloc (.cells #[.string p, u] 121)).alloc (.cells #[.string p] 9)).ownsRow w.heap.size 9 1 (.slice (some ⟨w.heap.size + 1, 0, none⟩) 1 1) 1 [.string p]) := by
    have := own_one5 (w.alloc (.cells #[.string p, u] 121)) w.heap.size 9 (.string p) (by simp)
    show World.ownsRow _ _ _ _ _ _ _
    simpa using this
  have HS : Hid (SliceS w B u M.length (atL M)) := hs
  have HE5 : Hid (∀ v w', w'.ownsRow w.heap.size 9 1 v (1 + M.length) ([.string p] ++ strCells M) → SliceS w' w.heap.size v (allD (p, M)).length (atL (allD (p, M)))) := fun v w' h => slice_of_own (L := p :: M) (by rw [List.length_cons, Nat.add_comm]; exact h)
  have HZ : Hid (∀ j, j < (allD (p, M)).length → (atL (allD (p, M)) j).size ≤ 1048576) := fun j hj => by
    cases j with
    | zero => exact hz1
    | succ j =>
      have e : atL (allD (p, M)) (j + 1) = atL M j := by simp [atL, allD]
      rw [e]; exact hz j (by simpa [allD] using hj)
  have HLen : Hid ((allD (p, M)).length = M.length + 1) := rfl
  have hD5 : (allD (p, M)).length ≤ 5 := by have := HLen.out; omega
  have hD0 : 0 < (allD (p, M)).length := by have := HLen.out; omega
  have HNB : Hid ((∀ j, j < (allD (p, M)).length → (plTo pl ns (allD (p, M)) j (atL (allD (p, M)) j)).isSome = true → newB pl ns (allD (p, M)) = false) ∧ ((∀ j, j < (allD (p, M)).length → plTo pl ns (allD (p, M)) j (atL (allD (p, M)) j) = none) → newB pl ns (allD (p, M)) = true)) := ⟨fun j a b => newB_at j a b, newB_all⟩
  obtain ⟨ety, ev, hev⟩ := hE
  have HMp : Hid (MapIs w bm N pl) := hm
  have hbm : b ≠ bm := hm.ne hb2
  have hem : 4 ≠ bm := hm.ne hev
  clear hs hz hz1 hm
  generalize newB pl ns (allD (p, M)) = R at *
  obtain ⟨q, cap, rfl, hg⟩ := HS.out
  obtain ⟨g, rfl, -, hgw, hc⟩ := hg hM
  have HN : Hid (∀ j v, (strCells M)[j]? = some v → ((w.alloc (.cells #[.string p, .slice (some ⟨g, 0, none⟩) M.length cap] 121)).alloc (.cells #[.string p] 9)).cell? ((⟨g, 0, none⟩ : Addr).add j) = some v) := by
    intro j v hv
    have hj : j < M.length := by
      have := (List.getElem?_eq_some_iff.1 hv).1
      simpa [strCells] using this
    have e : v = .string (atL M j) := by
      simp [strCells, hj] at hv
      rw [← hv]; simp [atL, hj]
    rw [Addr.add_lit, Nat.zero_add, (bcell HB.out).1 _ _ hgw, (hc j hj).1, e]
  have HC : Hid (∀ v ∈ strCells M, v.oneCell' = true) := by
    intro v hv
    unfold strCells at hv
    rw [List.mem_map] at hv
    obtain ⟨x, _, rfl⟩ := hv
    rfl
  clear hg hc
  generalize allD (p, M) = D at *
  go_enter Tryz.func173, Tryz.ntmps173
  go_wp2_with (at_builtin; go_must (refine wpList_append_own _ rfl _ _ 22 rfl w.heap.size 9 i0 (.string ⟨#[]⟩) 1 16 Tryz.underlying22 hi hy0 hy1 hy2 rfl (by decide) _ _ _ rfl HO.out ⟨g, 0, none⟩ M.length cap (strCells M) rfl (by simp [strCells]) HN.out HC.out (by unfold maxLen; omega) (by omega) HB.out.size ?_))
  intro v1 w1 ho1 hg1 hn1
  have B1 : Hid (Below w.heap.size w w1) := HB.out.grown hg1 (by simp; omega) (fun j hj => by simp [Value.ownBlock] at hj; omega)
  have S1 : Hid (SliceS w1 w.heap.size v1 D.length (atL D)) := HE5.out v1 w1 ho1
  obtain ⟨dp, dc, rfl, hd⟩ := S1.out
  have hdcap : D.length ≤ dc := by have := own_cap ho1; have := HLen.out; omega
  clear ho1 hg1 hn1 HE5 HO HN HC HB
  obtain ⟨dg, rfl, -, hdw, hdc⟩ := hd (by omega)
  have HD : Hid (∀ j, j < D.length → w1.cell? ⟨dg, j, none⟩ = some (.string (atL D j))) := fun j hj => (hdc j hj).1
  have M1 : Hid (MapIs w1 bm N pl) := HMp.out.below B1.out
  have hbw : b < w.heap.size := World.block_lt_of_cell? w _ hb1
  have hew : 4 < w.heap.size := World.block_lt_of_cell? w _ hev
  have p1 : w1.cell? ⟨b, 1, none⟩ = some (.slice sp ns sc) := ((bcell B1.out).1 _ _ hbw).trans hb1
  have p2 : w1.cell? ⟨b, 2, none⟩ = some (.map (some bm)) := ((bcell B1.out).1 _ _ hbw).trans hb2
  have p3 : w1.cell? ⟨4, 0, none⟩ = some (.iface ety ev) := ((bcell B1.out).1 _ _ hew).trans hev
  clear hd hdc S1 HMp hb1 hb2 hev
  go_wp2
  go_loopw [18] (fun i wr => ∃ k : Nat, k ≤ D.length ∧ i = .int .i64 k ∧ Hid (MapIs wr bm (N + k) (plTo pl ns D k)) ∧ Hid (w1.grownBy wr (some bm)) ∧ Hid (∀ j, j < k → plTo pl ns D j (atL D j) = none)) (fun i _ => D.length - (intOf i).toNat)
  case atStart => exact ⟨0, Nat.zero_le _, rfl, M1, grown_refl _ _, fun j hj => absurd hj (by omega)⟩
  case round =>
    obtain ⟨k, hk, rfl, HMk, HGk, HNk⟩ := hrel
    have c1 : wr.cell? ⟨b, 1, none⟩ = some (.slice sp ns sc) := grown_cell HGk.out p1 hbm
    have c2 : wr.cell? ⟨b, 2, none⟩ = some (.map (some bm)) := grown_cell HGk.out p2 hbm
    by_cases hlt : k < D.length
    · have c0 : wr.cell? ⟨dg, k, none⟩ = some (.string (atL D k)) := grown_cell HGk.out (HD.out k hlt) (M1.out.ne (HD.out k hlt))
      have j0 : (0 : Int) ≤ k := by omega
      have j1 : (k : Int) < D.length := by omega
      have j2 : (k : Int) ≤ dc := by omega
      have HSz : Hid ((atL D k).size ≤ maxLen) := by have := HZ.out k hlt; show _ ≤ _; unfold maxLen; omega
      obtain ⟨DD, hown, hview⟩ := HMk.out
      have HV : Hid (∀ d : ByteArray, Maps.has DD (keyD d) = ((plTo pl ns D k) d).isSome ∧ ∀ p, (plTo pl ns D k) d = some p → DD.atKey (keyD d) (.lit (.int .i64 0)) = .lit (.int .i64 (p : Int))) := hview
      have HOW : Hid (wr.ownsMap Tryz.prog 9 (plainElem Tryz.prog 3) bm (N + k) DD) := hown
      have hv1 := (hview (atL D k)).1
      clear hown hview
      cases hsm : (plTo pl ns D k (atL D k)).isSome with
      | true =>
        have hh : Maps.has DD (.string (atL D k).data.toList) = true := hv1.trans hsm
        have HQ : Hid (R = false) := HNB.out.1 k hlt hsm
        have KG : Hid (Calls Tryz.prog 190 #[.pointer (some ⟨b, 0, none⟩), .slice (some ⟨dg, 0, none⟩) k dc] wr fun e w' => e = .returned (.tuple #[]) ∧ MapIs w' bm (N + k) (dlTo (plTo pl ns D k) D k) ∧ wr.grownBy w' (some bm)) := giveBack_any b bm dg k dc (N + k) D (plTo pl ns D k) wr hk (by omega) HZ.out c2 (fun j hj => grown_cell HGk.out (HD.out j (by omega)) (M1.out.ne (HD.out j (by omega)))) HMk.out
        have p4 : wr.cell? ⟨4, 0, none⟩ = some (.iface ety ev) := grown_cell HGk.out p3 hem
        have HBack : Hid (∀ w', MapIs w' bm (N + k) (dlTo (plTo pl ns D k) D k) → MapIs w' bm (N + 5) pl) := fun w' h => (h.congr (given_back pl ns D k HNk.out)).mono (by omega)
        clear hv1 hsm
        generalize atL D k = d at *
        go_wp2_with (at_lookup; go_must (refine wpList_lookup_own_ok_int _ rfl _ _ 137 rfl 9 3 .i64 strKeyed Tryz.underlying137 Tryz.underlying3 (zeroI _) bm (N + k) DD rfl HOW.out _ _ rfl (Go.WideMaps.keyOf_string_mk Tryz.underlying9 HSz.out) ?_); intro c hat hwc)
        refine KG.out.mono ?_
        rintro e w2 ⟨rfl, hm2, hg2⟩
        have p5 : w2.cell? ⟨4, 0, none⟩ = some (.iface ety ev) := grown_cell hg2 p4 hem
        have M2 : Hid (MapIs w2 bm (N + 5) pl) := HBack.out w2 hm2
        have G2 : Hid (w.grownBy w2 (some bm)) := grown_trans (grown_below B1.out _) (grown_trans HGk.out hg2)
        clear hm2 hg2
        go_wp2
        go_ret
        exact ⟨.inr ⟨HQ.out, ⟨_, _, rfl⟩, M2.out⟩, G2.out⟩
      | false =>
        have hh : Maps.has DD (.string (atL D k).data.toList) = false := hv1.trans hsm
        have hnone : plTo pl ns D k (atL D k) = none := by
          cases e : plTo pl ns D k (atL D k) with
          | none => rfl
          | some v => rw [e] at hsm; cases hsm
        have HN2 : Hid (∀ j, j < k + 1 → plTo pl ns D j (atL D j) = none) := fun j hj => by
          by_cases e : j = k
          · subst e; exact hnone
          · exact HNk.out j (by omega)
        obtain ⟨w', hrun, hown', hg'⟩ := (ownsMap_drew HOW.out).update strKeyed Tryz.underlying137 (by unfold maxLen; omega) (Go.WideMaps.keyOf_string_mk Tryz.underlying9 HSz.out) (plainElem_int Tryz.underlying3 (WalkArith.wf_i64 (n := (ns : Int)) (by omega)))
        have M2 : Hid (MapIs w' bm (N + (k + 1)) (plTo pl ns D (k + 1))) := mapIs_put HOW.out.isMap HV.out hown'
        have G2 : Hid (w1.grownBy w' (some bm)) := grown_trans HGk.out (grown_trans (grown_drew wr _) hg')
        clear hv1 hsm hnone hown' hg'
        generalize atL D k = d at *
        go_wp2_with (at_lookup; go_must (refine wpList_lookup_own_ok_int _ rfl _ _ 137 rfl 9 3 .i64 strKeyed Tryz.underlying137 Tryz.underlying3 (zeroI _) bm (N + k) DD rfl HOW.out _ _ rfl (Go.WideMaps.keyOf_string_mk Tryz.underlying9 HSz.out) ?_); intro c hat hwc)
        go_region
        go_wp2
        go_roundw
        case rel => exact ⟨k + 1, by omega, by go_num, M2, G2, HN2⟩
        case measure => simp [intOf]; omega
    · obtain rfl : k = D.length := by omega
      have HQ : Hid (R = true) := HNB.out.2 HNk.out
      have M2 : Hid (MapIs wr bm (N + 5) (plTo pl ns D D.length)) := HMk.out.mono (by omega)
      have G2 : Hid (w.grownBy wr (some bm)) := grown_trans (grown_below B1.out _) HGk.out
      go_wp2
      go_ret
      exact ⟨.inl ⟨HQ.out, rfl, M2.out⟩, G2.out⟩
end Go.Proofs.YtaccgciopmclhaaGreatDoor

/- The walk of together: two texts put together in new memory. -/
namespace Go.Proofs.YtaccgciopmclhaaGreatDoor
open Go.RowKit


set_option maxRecDepth 10000 in
set_option maxHeartbeats 400000 in
theorem together_full (x y : ByteArray) (w : World) (hz : x.size + y.size ≤ 1000000) (hy : ¬ y = ByteArray.empty) :
    Calls Tryz.prog 182 #[.string x, .string y] w fun e w' => e = .returned (.string (x ++ y)) ∧ Below w.heap.size w w' := by
  obtain ⟨w1, Z, hmk, HG1, hZ, hs1, hb1⟩ := make_row (P := Tryz.prog) w 199 5 _ Tryz.underlying199 infoU8 ((x.size : Int) + (y.size : Int)) (x.size + y.size) (by omega) (by omega)
  go_enter Tryz.func182, Tryz.ntmps182
  go_wp2_with fail
  obtain ⟨w2, hc2, HG2, hs2, hB2⟩ := copy_text (P := Tryz.prog) w1 199 9 3 5 Tryz.underlying199 sizeU8 (some ⟨w.heap.size, 0, none⟩) (x.size + y.size) (x.size + y.size) x (by omega) w.heap.size 0 Z _ HG1 (fun _ => rfl) (by omega)
  have hb2 := hB2 _ _ hb1 (Nat.le_refl _)
  rw [hc2]
  clear hc2 hmk hB2 HG1 hb1
  go_wp2_with fail
  have hl2 : (splice Z 0 (Lib.byteCells x.data.toList)).length = x.size + y.size := by rw [length_splice _ _ _ (by rw [len_cells]; omega), hZ]
  obtain ⟨w3, hc3, HG3, hs3, hB3⟩ := copy_text (P := Tryz.prog) w2 199 9 3 5 Tryz.underlying199 sizeU8 (some ⟨w.heap.size, x.size, none⟩) y.size y.size y (by omega) w.heap.size x.size _ _ HG2 (fun _ => rfl) (by omega)
  have hb3 := hB3 _ _ hb2 (Nat.le_refl _)
  have HG4 : RowAt w3 w.heap.size 5 (Lib.byteCells (x.data.toList ++ y.data.toList) ++ []) := by
    have e := splice_two Z (Lib.byteCells x.data.toList) (Lib.byteCells y.data.toList) (by rw [len_cells, len_cells]; exact hZ)
    rw [len_cells] at e
    rw [e, ← byteCells_append, ← List.append_nil (Lib.byteCells _)] at HG3
    exact HG3
  rw [hc3]
  clear hc3 hB3 HG2 HG3 hb2 hl2
  go_wp2_with fail
  rw [text_of_row (P := Tryz.prog) w3 199 9 5 Tryz.underlying199 Tryz.underlying5 Tryz.underlying9 w.heap.size (x.size + y.size) (x.size + y.size) 5 _ _ HG4 (by rw [List.length_append, ← Lib.size_eq, ← Lib.size_eq])]
  go_wp2
  go_ret
  exact ⟨ret_text (text_append x y), hb3⟩

set_option maxRecDepth 10000 in
set_option maxHeartbeats 400000 in
theorem together_empty (x : ByteArray) (w : World) (hz : x.size ≤ 1000000) :
    Calls Tryz.prog 182 #[.string x, .string ByteArray.empty] w fun e w' => e = .returned (.string x) ∧ Below w.heap.size w w' := by
  obtain ⟨w1, Z, hmk, HG1, hZ, hs1, hb1⟩ := make_row (P := Tryz.prog) w 199 5 _ Tryz.underlying199 infoU8 (x.size : Int) x.size (by omega) (by omega)
  go_enter Tryz.func182, Tryz.ntmps182
  go_wp2_with fail
  obtain ⟨w2, hc2, HG2, hs2, hB2⟩ := copy_text (P := Tryz.prog) w1 199 9 3 5 Tryz.underlying199 sizeU8 (some ⟨w.heap.size, 0, none⟩) x.size x.size x (by omega) w.heap.size 0 Z _ HG1 (fun _ => rfl) (by omega)
  have hb2 := hB2 _ _ hb1 (Nat.le_refl _)
  rw [hc2]
  clear hc2 hmk hB2 HG1 hb1
  go_wp2_with fail
  have HG4 : RowAt w2 w.heap.size 5 (Lib.byteCells x.data.toList ++ []) := by
    have e : splice Z 0 (Lib.byteCells x.data.toList) = Lib.byteCells x.data.toList ++ [] := by
      unfold splice
      rw [List.drop_eq_nil_of_le (by rw [len_cells]; omega)]
      simp
    rw [e] at HG2
    exact HG2
  rw [Lib.run_copy_empty_string (P := Tryz.prog) w2 199 9 3 5 (some ⟨w.heap.size, 0, none⟩) 0 0 ByteArray.empty Tryz.underlying199 (by rw [Option.isSome_iff_exists]; exact ⟨1, sizeU8⟩) rfl]
  go_wp2_with fail
  rw [text_of_row (P := Tryz.prog) w2 199 9 5 Tryz.underlying199 Tryz.underlying5 Tryz.underlying9 w.heap.size x.size x.size 5 _ _ HG4 (by rw [← Lib.size_eq])]
  go_wp2
  go_ret
  exact ⟨rfl, hb2⟩
theorem together_any (x y : ByteArray) (w : World) (hz : x.size + y.size ≤ 1000000) :
    Calls Tryz.prog 182 #[.string x, .string y] w fun e w' => e = .returned (.string (x ++ y)) ∧ Below w.heap.size w w' := by
  by_cases hy : y = ByteArray.empty
  · subst hy
    rw [ByteArray.append_empty]
    exact together_empty x w (by omega)
  · exact together_full x y w hz hy

end Go.Proofs.YtaccgciopmclhaaGreatDoor

/- The walks of the program's textCopy, and of its copiesOf at texts. Written by implsetcopy.py. -/
namespace Go.Proofs.YtaccgciopmclhaaGreatDoor
open Go.RowKit
set_option linter.unusedSimpArgs false

set_option maxRecDepth 10000 in
set_option maxHeartbeats 2000000 in
theorem textCopy_any (x : ByteArray) (w : World) (hz : x.size ≤ 1000000) :
    Calls Tryz.prog 158 #[.string x] w fun e w' => e = .returned (.string x) ∧ Below w.heap.size w w' := by
  have K0 : Hid (∀ W, Calls Tryz.prog 182 #[.string x, .string ⟨#[]⟩] W fun e w' => e = .returned (.string x) ∧ Below W.heap.size W w') := fun W => together_empty x W hz
  clear hz
  go_enter Tryz.func158, Tryz.ntmps158
  go_wp2_with (go_at_call 182; refine (K0.out _).mono ?_; rintro e w1 ⟨rfl, hb1⟩)
  try go_wp2
  go_ret
  exact ⟨rfl, hb1⟩

set_option maxRecDepth 10000 in
set_option maxHeartbeats 8000000 in
theorem copiesS_any (v : Value) (L : List ByteArray) (B : Nat) (w : World) (hs : SliceS w B v L.length (atL L)) (hn : L.length ≤ 1048576) (hz : ∀ j, j < L.length → (atL L j).size ≤ 1000000) :
    Calls Tryz.prog 157 #[v, .func (.func 158) #[] #[]] w fun e w' => ∃ v', e = .returned v' ∧ w'.ownsRow w.heap.size 9 1 v' L.length (strCells L) ∧ (L.length = 0 → v' = .slice none 0 0) ∧ Below w.heap.size w w' := by
  have KC : Hid (∀ j, j < L.length → ∀ W, Calls Tryz.prog 158 #[.string (atL L j)] W fun e w' => e = .returned (.string (atL L j)) ∧ Below W.heap.size W w') := fun j hj W => textCopy_any _ W (hz j hj)
  have HSY : Hid (∀ k, k < L.length → ∀ (v : Value) (w' : World), w'.ownsRow w.heap.size 9 1 v (k + 1) (strCells (L.take k) ++ [.string (atL L k)]) → w'.ownsRow w.heap.size 9 1 v (k + 1) (strCells (L.take (k + 1)))) := fun k hlt v w' h => by
    rw [List.take_succ_eq_append_getElem hlt, ← show atL L k = L[k] from by simp [atL, hlt], ← strCells_snoc]; exact h
  obtain ⟨i0, hi, hy0, hy1, hy2⟩ := info_parts infoStr
  obtain ⟨q, cap, rfl, hg⟩ := hs
  have HG : Hid (0 < L.length → ∃ g, q = some ⟨g, 0, none⟩ ∧ g < w.heap.size ∧ ∀ j, j < L.length → w.cell? ⟨g, j, none⟩ = some (.string (atL L j))) := fun h0 => by
    obtain ⟨g, e, -, hgw, hc⟩ := hg h0
    exact ⟨g, e, hgw, fun j hj => (hc j hj).1⟩
  clear hg hz
  go_enter Tryz.func157, Tryz.ntmps157
  go_wp2
  go_loopw [5, 10] (fun v i wr => ∃ k : Nat, k ≤ L.length ∧ i = .int .i64 k ∧ Hid (wr.ownsRow w.heap.size 9 1 v k (strCells (L.take k))) ∧ Hid (Below w.heap.size w wr) ∧ Hid (k = 0 → v = .slice none 0 0)) (fun _ i _ => L.length - (intOf i).toNat)
  case atStart => exact ⟨0, Nat.zero_le _, rfl, World.ownsRow_nil _ _ _ _, Below.refl _ _, fun _ => rfl⟩
  case round =>
    obtain ⟨k, hk, rfl, HO, HB, HN⟩ := hrel
    have hws : w.heap.size ≤ wr.heap.size := HB.out.size
    by_cases hlt : k < L.length
    · obtain ⟨g, rfl, hgw, hc⟩ := HG.out (by omega)
      have k0 : (0 : Int) ≤ k := by omega
      have k1 : (k : Int) < L.length := by omega
      have HKY := HSY.out k hlt
      have KC0 := KC.out k hlt
      have c0 : wr.cell? ⟨g, k, none⟩ = some (.string (atL L k)) := by rw [(bcell HB.out).1 _ _ hgw]; exact hc k hlt
      clear hc
      generalize atL L k = y at *
      generalize L.take k = Y at *
      have KC1 : Hid (∀ W, Calls Tryz.prog 158 #[.string y] W fun e w' => e = .returned (.string y) ∧ Below W.heap.size W w') := KC0
      have HKY1 : Hid (∀ (v : Value) (w' : World), w'.ownsRow w.heap.size 9 1 v (k + 1) (strCells Y ++ [.string y]) → w'.ownsRow w.heap.size 9 1 v (k + 1) (strCells (L.take (k + 1)))) := HKY
      clear KC0 HKY
      go_wp2_with fail
      refine (KC1.out _).mono ?_
      rintro e w3 ⟨rfl, hb3⟩
      have O4 : Hid (w3.ownsRow w.heap.size 9 1 _ k (strCells Y)) := own_below HO.out hb3
      have B3 : Hid (Below w.heap.size w w3) := HB.out.trans (hb3.mono HB.out.size)
      have hw3 : w.heap.size ≤ w3.heap.size := B3.out.size
      clear hb3 HO HB c0
      go_wp2_with (at_builtin; go_must (refine wpList_append_own _ rfl _ _ 22 rfl w.heap.size 9 i0 (.string ⟨#[]⟩) 1 16 Tryz.underlying22 hi hy0 hy1 hy2 rfl (by decide) _ _ _ rfl (O4.out.alloc _) ⟨w3.heap.size, 0, none⟩ 1 1 [.string y] rfl rfl (cell_one_new _ _ _) (by intro u hu; simp at hu; subst hu; rfl) (by unfold maxLen; omega) (by omega) (by simp; omega) ?_))
      intro v1 w4 ho1 hg1 hn1
      have hb4 : Below w.heap.size w w4 := (B3.out.alloc B3.out.size _).grown hg1 (Nat.le_trans B3.out.size (by simp)) (fun j hj => own_base O4.out j hj)
      have O5 : Hid (w4.ownsRow w.heap.size 9 1 v1 (k + 1) (strCells (L.take (k + 1)))) := HKY1.out _ _ ho1
      have B4 : Hid (Below w.heap.size w w4) := hb4
      clear ho1 hg1 hn1 hb4
      go_wp2
      go_roundw
      case rel => exact ⟨k + 1, by omega, by go_num, O5, B4, fun h => absurd h (by omega)⟩
      case measure => simp [intOf]; omega
    · obtain rfl : k = L.length := by omega
      rw [List.take_length] at HO
      go_wp2
      go_ret
      exact ⟨_, rfl, HO.out, HN.out, HB.out⟩
end Go.Proofs.YtaccgciopmclhaaGreatDoor

/- The walk of the program's setCopy. Written by implsetcopy.py. -/
namespace Go.Proofs.YtaccgciopmclhaaGreatDoor
open Go.RowKit
set_option linter.unusedSimpArgs false

set_option maxRecDepth 10000 in
set_option maxHeartbeats 4000000 in
theorem setCopy_any (x : SetL) (u : Value) (B : Nat) (w : World) (hs : SliceS w B u x.2.length (atL x.2)) (hM : 0 < x.2.length) (hn : x.2.length ≤ 1000) (hz1 : x.1.size ≤ 1000) (hz : ∀ i, i < x.2.length → (atL x.2 i).size ≤ 1000) :
    Calls Tryz.prog 160 #[.agg #[.string x.1, u]] w fun e w' => ∃ p c, e = .returned (.agg #[.string x.1, .slice p x.2.length c]) ∧ SliceS w' w.heap.size (.slice p x.2.length c) x.2.length (atL x.2) ∧ Below w.heap.size w w' := by
  obtain ⟨p, M⟩ := x
  dsimp only at hs hM hn hz1 hz ⊢
  have hs0 := hs
  obtain ⟨q, cap, rfl, hg⟩ := hs0
  obtain ⟨g, rfl, -⟩ := hg hM
  have K0 : Hid (∀ W, Calls Tryz.prog 158 #[.string p] W fun e w' => e = .returned (.string p) ∧ Below W.heap.size W w') := fun W => textCopy_any p W (by omega)
  have K1 : Hid (∀ W, Below w.heap.size w W → Calls Tryz.prog 157 #[.slice (some ⟨g, 0, none⟩) M.length cap, .func (.func 158) #[] #[]] W fun e w' => ∃ q2 c2, e = .returned (.slice q2 M.length c2) ∧ SliceS w' W.heap.size (.slice q2 M.length c2) M.length (atL M) ∧ Below W.heap.size W w') := fun W hb => (copiesS_any _ M B W (hs.below hb) (by omega) (fun j hj => by have := hz j hj; omega)).mono (by
    rintro e w' ⟨v', rfl, ho, -, hb'⟩
    have h := slice_of_own ho
    have h2 := h
    obtain ⟨q2, c2, rfl, -⟩ := h2
    exact ⟨q2, c2, rfl, h, hb'⟩)
  clear hs hg hM hn hz1 hz
  obtain ⟨W0, hW⟩ : ∃ W0, W0 = ((w.alloc (.cells #[.string p, .slice (some ⟨g, 0, none⟩) M.length cap] 121)).alloc (.cells #[.string ⟨#[]⟩, .slice none 0 0] 121)) := ⟨_, rfl⟩
  have hW0 : Hid (W0 = ((w.alloc (.cells #[.string p, .slice (some ⟨g, 0, none⟩) M.length cap] 121)).alloc (.cells #[.string ⟨#[]⟩, .slice none 0 0] 121))) := hW
  have HB : Hid (Below w.heap.size w W0) := by show Below _ _ _; rw [hW]; exact ((Below.refl _ _).alloc (Nat.le_refl _) _).alloc (by simp) _
  have z1 : w.heap.size + 1 < W0.heap.size := by rw [hW]; simp
  have a0 : W0.cell? ⟨w.heap.size, 0, none⟩ = some (.string p) := by rw [hW]; simp
  have a1 : W0.cell? ⟨w.heap.size, 1, none⟩ = some (.slice (some ⟨g, 0, none⟩) M.length cap) := by rw [hW]; simp
  have r0 : W0.cell? ⟨w.heap.size + 1, 0, none⟩ = some (.string ⟨#[]⟩) := by rw [hW]; exact (World.cell?_alloc_at _ _ _ _ (by simp)).trans rfl
  have r1 : W0.cell? ⟨w.heap.size + 1, 1, none⟩ = some (.slice none 0 0) := by rw [hW]; exact (World.cell?_alloc_at _ _ _ _ (by simp)).trans rfl
  have f0 : W0.frozen? ⟨w.heap.size + 1, 0, none⟩ = false := by rw [hW]; exact World.frozen?_alloc_at _ _ _ _ (by simp)
  have f1 : W0.frozen? ⟨w.heap.size + 1, 1, none⟩ = false := by rw [hW]; exact World.frozen?_alloc_at _ _ _ _ (by simp)
  clear hW
  go_enter Tryz.func160, Tryz.ntmps160
  go_upto_region 1 with fail
  rw [← hW0.out]
  clear hW0
  generalize hbb : w.heap.size = b at *
  have hb1 : b < W0.heap.size := by omega
  refine wp_region_held_drew (S := (fun w' => w'.cell? ⟨b, 0, none⟩ = some (.string p) ∧ w'.cell? ⟨b, 1, none⟩ = some (.slice (some ⟨g, 0, none⟩) M.length cap))) (by kernel_rfl) ?_ (fun hH0 => ?_)
  · (try dsimp only)
    go_keep
  refine wpAnyH_take (i := 0) (v := ?va0) rfl (by kernel_rfl) (by kernel_rfl) (by kernel_rfl) (fun _ _ _ h => h) (Or.inl ⟨by rfl, ?hya0⟩) (by assumption) ?resta0
  case hya0 =>
    intro w hSw
    (try dsimp only at hSw)
    go_simp
    try with_reducible rfl
  try simp only [Act.put, List.setIfInBounds_toArray, List.set_cons_zero, List.set_cons_succ]
  refine wpAnyH_take (i := 1) (v := ?va1) rfl (by kernel_rfl) (by kernel_rfl) (by kernel_rfl) (fun _ _ _ h => h) (Or.inl ⟨by rfl, ?hya1⟩) (by assumption) ?resta1
  case hya1 =>
    intro w hSw
    (try dsimp only at hSw)
    go_simp
    try with_reducible rfl
  try simp only [Act.put, List.setIfInBounds_toArray, List.set_cons_zero, List.set_cons_succ]
  refine wpAnyH_take (i := 3) (v := ?va3) rfl (by kernel_rfl) (by kernel_rfl) (by kernel_rfl) (fun _ _ _ h => h) (Or.inl ⟨by rfl, ?hya3⟩) (by assumption) ?resta3
  case hya3 =>
    intro w hSw
    (try dsimp only at hSw)
    go_simp
    try with_reducible rfl
  try simp only [Act.put, List.setIfInBounds_toArray, List.set_cons_zero, List.set_cons_succ]
  refine wpAnyH_take (i := 4) (v := ?va4) rfl (by kernel_rfl) (by kernel_rfl) (by kernel_rfl) (fun _ _ _ h => h) (Or.inl ⟨by rfl, ?hya4⟩) (by assumption) ?resta4
  case hya4 =>
    intro w hSw
    (try dsimp only at hSw)
    go_simp
    try with_reducible rfl
  try simp only [Act.put, List.setIfInBounds_toArray, List.set_cons_zero, List.set_cons_succ]
  refine wpAnyH_ready (rs := [2]) (by kernel_rfl) (by simp) ?_
  refine AllReadyH.cons rfl (fun K hK => ?_) AllReadyH.nil
  go_simp
  (go_at_call 158; refine (K0.out _).mono ?_; rintro e w1 ⟨rfl, hq1⟩; have A1 : Below W0.heap.size W0 w1 := (Below.drew (Below.refl _ _)).trans hq1; have x0 : w1.cell? ⟨b, 0, none⟩ = some (.string p) := ((bcell A1).1 _ _ hb1).trans a0; have x1 : w1.cell? ⟨b, 1, none⟩ = some (.slice (some ⟨g, 0, none⟩) M.length cap) := ((bcell A1).1 _ _ hb1).trans a1)
  try (go_wp2_with fail)
  refine hK.out _ _ ?_ (fun hH1 => ?_)
  · (try dsimp only)
    go_keep
  clear hK K hH0
  try simp only [Act.put, List.setIfInBounds_toArray, List.set_cons_zero, List.set_cons_succ]
  refine wpAnyH_ready (rs := [5]) (by kernel_rfl) (by simp) ?_
  refine AllReadyH.cons rfl (fun K hK => ?_) AllReadyH.nil
  go_simp
  (go_at_call 157; refine (K1.out w1 (HB.out.trans (A1.mono (by omega)))).mono ?_; rintro e w2 ⟨q2, c2, rfl, S2, hq2⟩; have A2 : Below W0.heap.size W0 w2 := A1.trans (hq2.mono A1.size); have z2 : b + 1 < w1.heap.size := Nat.lt_of_lt_of_le z1 A1.size; have y0 : w2.cell? ⟨b, 0, none⟩ = some (.string p) := ((bcell A2).1 _ _ hb1).trans a0; have y1 : w2.cell? ⟨b, 1, none⟩ = some (.slice (some ⟨g, 0, none⟩) M.length cap) := ((bcell A2).1 _ _ hb1).trans a1; have s0 : w2.cell? ⟨b + 1, 0, none⟩ = some (.string ⟨#[]⟩) := ((bcell A2).1 _ _ z1).trans r0; have t0 : w2.frozen? ⟨b + 1, 0, none⟩ = false := ((bcell A2).2 _ _ z1).trans f0; have s1 : w2.cell? ⟨b + 1, 1, none⟩ = some (.slice none 0 0) := ((bcell A2).1 _ _ z1).trans r1; have t1 : w2.frozen? ⟨b + 1, 1, none⟩ = false := ((bcell A2).2 _ _ z1).trans f1)
  try (go_wp2_with fail)
  refine hK.out _ _ ?_ (fun hH2 => ?_)
  · (try dsimp only)
    go_keep
  clear hK K hH1
  try simp only [Act.put, List.setIfInBounds_toArray, List.set_cons_zero, List.set_cons_succ]
  refine wpAnyH_take (i := 6) (v := ?va6) rfl (by kernel_rfl) (by kernel_rfl) (by kernel_rfl) (fun _ _ _ h => h) (Or.inl ⟨by rfl, ?hya6⟩) (by assumption) ?resta6
  case hya6 =>
    intro w hSw
    (try dsimp only at hSw)
    go_simp
    try with_reducible rfl
  try simp only [Act.put, List.setIfInBounds_toArray, List.set_cons_zero, List.set_cons_succ]
  refine wpAnyH_ready (rs := [7]) (by kernel_rfl) (by simp) ?_
  refine AllReadyH.cons rfl (fun K hK => ?_) AllReadyH.nil
  go_simp
  (skip)
  try (go_wp2_with fail)
  refine hK.out _ _ ?_ (fun hH3 => ?_)
  · (try dsimp only)
    go_keep
  clear hK K hH2
  try simp only [Act.put, List.setIfInBounds_toArray, List.set_cons_zero, List.set_cons_succ]
  refine wpAnyH_done (by kernel_rfl) ?_ _
  all_goals go_wp2
  all_goals
    refine bodyPost_ret (v := .agg #[.string p, .slice q2 M.length c2]) (by simp [results, Tryz.results160, go_sem, s0, s1]) rfl ⟨q2, c2, rfl, ?_, ?_⟩
    · rw [hbb]
      exact SliceS.mono ((S2.setOther (by omega)).setOther (by omega)) (by omega)
    · have hB2 : Below b w w2 := HB.out.trans (A2.mono (by omega))
      rw [hbb]
      refine Below.setCell (Below.setCell hB2 ?_ _) ?_ _ <;> exact Nat.le_add_right b 1
end Go.Proofs.YtaccgciopmclhaaGreatDoor

/- The book's own memory: its three cells, the row of its sets, their members. -/
namespace Go.Proofs.YtaccgciopmclhaaGreatDoor
open Go.RowKit Go.Maps

theorem SliceS.keepG {w w' : World} {B n : Nat} {row : Option Nat} {v : Value} {f : Nat → ByteArray} (h : SliceS w B v n f) (hg : w.grownBy w' row) (hne : 0 < n → v.ownBlock ≠ row) : SliceS w' B v n f := by
  obtain ⟨p, cap, rfl, h⟩ := h
  refine ⟨p, cap, rfl, fun hn => ?_⟩
  obtain ⟨g, rfl, hB, hgw, hc⟩ := h hn
  have hb : w'.heap[g]? = w.heap[g]? := hg.block g hgw (fun e => hne hn e)
  refine ⟨g, rfl, hB, Nat.lt_of_lt_of_le hgw hg.size, fun j hj => ⟨?_, ?_⟩⟩
  · rw [World.cell?_of_block (a := ⟨g, j, none⟩) hb]; exact (hc j hj).1
  · rw [World.frozen?_of_block (a := ⟨g, j, none⟩) hb]; exact (hc j hj).2
theorem SliceS.place {w : World} {B n : Nat} {v : Value} {f : Nat → ByteArray} (h : SliceS w B v n f) (hn : 0 < n) : ∃ g, v.ownBlock = some g ∧ B ≤ g ∧ g < w.heap.size ∧ w.cell? ⟨g, 0, none⟩ = some (.string (f 0)) := by
  obtain ⟨p, cap, rfl, h⟩ := h
  obtain ⟨g, rfl, hB, hg, hc⟩ := h hn
  exact ⟨g, rfl, hB, hg, (hc 0 hn).1⟩
theorem SliceS.setFar {w : World} {B n b o : Nat} {v x : Value} {f : Nat → ByteArray} (h : SliceS w B v n f) (hb : 0 < n → v.ownBlock ≠ some b) : SliceS (w.setCell ⟨b, o, none⟩ x) B v n f := by
  obtain ⟨p, cap, rfl, h⟩ := h
  refine ⟨p, cap, rfl, fun hn => ?_⟩
  obtain ⟨g, rfl, h1, h2, hc⟩ := h hn
  refine ⟨g, rfl, h1, by simpa [World.setCell] using h2, fun j hj => ⟨?_, ?_⟩⟩
  · rw [World.cell?_setCell_other _ _ _ _ (by intro h; injection h with h; exact hb hn (by rw [h]; rfl))]; exact (hc j hj).1
  · rw [World.frozen?_setCell]; exact (hc j hj).2
/-- the cells of sets -/
def setCs : List (SetL × Value) → List Value
  | [] => []
  | t :: T => .string t.1.1 :: t.2 :: setCs T
theorem setCs_snoc (T : List (SetL × Value)) (x : SetL) (u : Value) : setCs T ++ [.string x.1, u] = setCs (T ++ [(x, u)]) := by
  induction T with
  | nil => rfl
  | cons t T ih => simp only [setCs, List.cons_append, ih]
theorem own_far {w : World} {B n sz b o : Nat} {e : TypeId} {v x : Value} {xs : List Value} (h : w.ownsRow B e sz v n xs) (hb : v.ownBlock ≠ some b) : (w.setCell ⟨b, o, none⟩ x).ownsRow B e sz v n xs := by
  obtain ⟨hl, h0 | ⟨g, cap, cur, rfl, hB, hh, r⟩⟩ := h
  · exact ⟨hl, .inl h0⟩
  · exact ⟨hl, .inr ⟨g, cap, cur, rfl, hB, by rw [Below.heap_setCell _ _ _ _ (fun e => hb (congrArg some e))]; exact hh, r⟩⟩
theorem own_keepG {w w' : World} {B n sz : Nat} {e : TypeId} {v : Value} {xs : List Value} {row : Option Nat} (h : w.ownsRow B e sz v n xs) (hg : w.grownBy w' row) (hne : ∀ g, v.ownBlock = some g → some g ≠ row) : w'.ownsRow B e sz v n xs := by
  obtain ⟨hl, h0 | ⟨g, cap, cur, rfl, hB, hh, r⟩⟩ := h
  · exact ⟨hl, .inl h0⟩
  · have hlt : g < w.heap.size := (Array.getElem?_eq_some_iff.mp hh).1
    exact ⟨hl, .inr ⟨g, cap, cur, rfl, hB, by rw [hg.block g hlt (hne g rfl)]; exact hh, r⟩⟩
theorem own_ne_map {w : World} {B n sz bm N g : Nat} {e : TypeId} {v : Value} {xs : List Value} {pl : ByteArray → Option Nat} (h : w.ownsRow B e sz v n xs) (hm : MapIs w bm N pl) (hg : v.ownBlock = some g) : g ≠ bm := by
  rintro rfl
  obtain ⟨hl, ⟨rfl, _⟩ | ⟨g', cap, cur, rfl, hB, hh, r⟩⟩ := h
  · cases hg
  · obtain rfl : g' = g := Option.some.inj hg
    obtain ⟨D, ⟨es, clock, h0, _⟩, _⟩ := hm
    rw [hh] at h0; cases h0
theorem own_in5 {w : World} {B n sz g : Nat} {e : TypeId} {v : Value} {xs : List Value} (h : w.ownsRow B e sz v n xs) (hg : v.ownBlock = some g) : B ≤ g ∧ g < w.heap.size := by
  obtain ⟨hl, ⟨rfl, _⟩ | ⟨g', cap, cur, rfl, hB, hh, r⟩⟩ := h
  · cases hg
  · obtain rfl : g' = g := Option.some.inj hg
    exact ⟨hB, (Array.getElem?_eq_some_iff.mp hh).1⟩
/-- the book, but for its map: block b holds the rules, the sets' slice and the map bm; all lies from B0 on -/
structure BookR (w : World) (B0 b bm : Nat) (rv : Value) (T : List (SetL × Value)) (sv : Value) : Prop where
  hb : B0 ≤ b
  hbm : B0 ≤ bm
  c0 : w.cell? ⟨b, 0, none⟩ = some rv
  c1 : w.cell? ⟨b, 1, none⟩ = some sv
  c2 : w.cell? ⟨b, 2, none⟩ = some (.map (some bm))
  fz : ∀ o, w.frozen? ⟨b, o, none⟩ = false
  own : w.ownsRow B0 121 2 sv T.length (setCs T)
  nb : sv.ownBlock ≠ some b
  mem : ∀ t ∈ T, SliceS w B0 t.2 t.1.2.length (atL t.1.2) ∧ 0 < t.1.2.length ∧ t.2.ownBlock ≠ sv.ownBlock ∧ t.2.ownBlock ≠ some b
theorem BookR.keepG {w w' : World} {B0 b bm : Nat} {rv sv : Value} {T : List (SetL × Value)} {row : Option Nat} (h : BookR w B0 b bm rv T sv) (hg : w.grownBy w' row) (h1 : some b ≠ row) (h2 : ∀ g, sv.ownBlock = some g → some g ≠ row) (h3 : ∀ t ∈ T, t.2.ownBlock ≠ row) : BookR w' B0 b bm rv T sv where
  hb := h.hb
  hbm := h.hbm
  c0 := hg.cell h.c0 h1
  c1 := hg.cell h.c1 h1
  c2 := hg.cell h.c2 h1
  fz := fun o => by
    have hlt : b < w.heap.size := World.block_lt_of_cell? w _ h.c0
    rw [World.frozen?_of_block (a := ⟨b, o, none⟩) (hg.block b hlt h1)]; exact h.fz o
  own := own_keepG h.own hg h2
  nb := h.nb
  mem := fun t ht => ⟨(h.mem t ht).1.keepG hg (fun _ => h3 t ht), (h.mem t ht).2⟩
theorem BookR.below {w w' : World} {B0 b bm : Nat} {rv sv : Value} {T : List (SetL × Value)} (h : BookR w B0 b bm rv T sv) (hb : Below w.heap.size w w') : BookR w' B0 b bm rv T sv :=
  h.keepG (grown_below hb none) (by simp) (fun _ _ => by simp) (fun t ht => by
    obtain ⟨g, e, -⟩ := (h.mem t ht).1.place (h.mem t ht).2.1
    rw [e]; simp)
theorem BookR.turned {w w' : World} {B0 b bm N : Nat} {rv sv : Value} {T : List (SetL × Value)} {pl : ByteArray → Option Nat} (h : BookR w B0 b bm rv T sv) (hm : MapIs w bm N pl) (hg : w.grownBy w' (some bm)) : BookR w' B0 b bm rv T sv :=
  h.keepG hg (fun e => hm.ne h.c0 (Option.some.inj e)) (fun g e e2 => own_ne_map h.own hm e (Option.some.inj e2)) (fun t ht => by
    obtain ⟨g, e, -, -, hc⟩ := (h.mem t ht).1.place (h.mem t ht).2.1
    rw [e]
    intro e2
    exact hm.ne hc (Option.some.inj e2))
/-- one set more -/
theorem BookR.push {w w3 w4 : World} {B0 b bm gg cap : Nat} {rv sv u' : Value} {T : List (SetL × Value)} {x : SetL} (h : BookR w B0 b bm rv T sv) (hb3 : Below w.heap.size w w3) (hu : SliceS w3 w.heap.size u' x.2.length (atL x.2)) (hx : 0 < x.2.length)
    (hown : w4.ownsRow B0 121 2 (.slice (some ⟨gg, 0, none⟩) (T.length + 1) cap) (T.length + 1) (setCs T ++ [.string x.1, u'])) (hgrow : (w3.alloc (.cells #[.string x.1, u'] 121)).grownBy w4 sv.ownBlock) (hat : sv.ownBlock = some gg ∨ gg = w3.heap.size + 1) :
    BookR (w4.setCell ⟨b, 1, none⟩ (.slice (some ⟨gg, 0, none⟩) (T.length + 1) cap)) B0 b bm rv (T ++ [(x, u')]) (.slice (some ⟨gg, 0, none⟩) (T.length + 1) cap) := by
  have hA := h.below hb3
  have hW : BookR (w3.alloc (.cells #[.string x.1, u'] 121)) B0 b bm rv T sv := hA.below ((Below.refl _ _).alloc (Nat.le_refl _) _)
  have hbw : b < w.heap.size := World.block_lt_of_cell? w _ h.c0
  have hz3 : w.heap.size ≤ w3.heap.size := hb3.size
  obtain ⟨gu, eu, hu1, hu2, -⟩ := hu.place hx
  have hgg : gg ≠ b := by
    rcases hat with e | e
    · intro e2; subst e2; exact h.nb e
    · omega
  have nrow : some b ≠ sv.ownBlock := fun e => h.nb e.symm
  have k0 : w4.cell? ⟨b, 0, none⟩ = some rv := hgrow.cell hW.c0 nrow
  have k1 : w4.cell? ⟨b, 1, none⟩ = some sv := hgrow.cell hW.c1 nrow
  have k2 : w4.cell? ⟨b, 2, none⟩ = some (.map (some bm)) := hgrow.cell hW.c2 nrow
  have hub : ∀ g, sv.ownBlock = some g → g < w.heap.size := fun g e => (own_in5 h.own e).2
  refine ⟨h.hb, h.hbm, ?_, World.cell?_setCell_same _ _ _ k1, ?_, fun o => ?_, ?_, ?_, fun t ht => ?_⟩
  · rw [World.cell?_setCell_other _ _ _ _ (by intro h; injection h with _ h; cases h)]; exact k0
  · rw [World.cell?_setCell_other _ _ _ _ (by intro h; injection h with _ h; cases h)]; exact k2
  · rw [World.frozen?_setCell]
    have hlt : b < (w3.alloc (.cells #[.string x.1, u'] 121)).heap.size := World.block_lt_of_cell? _ _ hW.c0
    rw [World.frozen?_of_block (a := ⟨b, o, none⟩) (hgrow.block b hlt nrow)]; exact hW.fz o
  · rw [List.length_append, ← setCs_snoc]
    exact own_far hown (fun e => hgg (Option.some.inj e))
  · intro e; exact hgg (Option.some.inj e)
  · rw [List.mem_append] at ht
    rcases ht with ht | ht
    · obtain ⟨m1, m2, m3, m4⟩ := hW.mem t ht
      obtain ⟨g, e, -, hg2, -⟩ := (h.mem t ht).1.place m2
      refine ⟨(m1.keepG hgrow (fun _ => m3)).setFar (fun _ => m4), m2, ?_, m4⟩
      rw [e]
      intro e2
      have e3 : g = gg := Option.some.inj e2
      rcases hat with e4 | e4
      · rw [e4, e, e3] at m3; exact m3 rfl
      · omega
    · obtain rfl : t = (x, u') := by simpa using ht
      have hu3 : SliceS (w3.alloc (.cells #[.string x.1, u'] 121)) w.heap.size u' x.2.length (atL x.2) := hu.below ((Below.refl _ _).alloc (Nat.le_refl _) _)
      have n1 : u'.ownBlock ≠ sv.ownBlock := by
        rw [eu]
        intro e
        have := hub gu e.symm
        omega
      have n2 : u'.ownBlock ≠ some b := by rw [eu]; intro e; have := Option.some.inj e; omega
      refine ⟨SliceS.mono ((hu3.keepG hgrow (fun _ => n1)).setFar (fun _ => n2)) (Nat.le_trans h.hb (Nat.le_of_lt hbw)), hx, ?_, n2⟩
      rw [eu]
      intro e2
      have e3 : gu = gg := Option.some.inj e2
      rcases hat with e4 | e4
      · have := hub gg e4; omega
      · omega
theorem MapIs.far {w : World} {bm N b o : Nat} {v : Value} {pl : ByteArray → Option Nat} (h : MapIs w bm N pl) (hne : bm ≠ b) : MapIs (w.setCell ⟨b, o, none⟩ v) bm N pl := by
  obtain ⟨D, h1, h2⟩ := h
  exact ⟨D, h1.setCell hne v, h2⟩
end Go.Proofs.YtaccgciopmclhaaGreatDoor

/- The walk of the program's closure that tells whether a rule fits a host's labels from a place on. -/
namespace Go.Proofs.YtaccgciopmclhaaGreatDoor
open Go.RowKit

/-- does a rule's text fit the labels from place k on, to their end? -/
def fitK (s : ByteArray) (k m : Nat) (h : Nat → ByteArray) : Bool := decide ((splitB s 46).length + k = m) && fitsB (splitB s 46).length (atL (splitB s 46)) m h
theorem fitK_other {s : ByteArray} {k m : Nat} {h : Nat → ByteArray} (e : ¬ (splitB s 46).length + k = m) : fitK s k m h = false := by unfold fitK; rw [decide_eq_false e]; rfl

set_option maxRecDepth 10000 in
set_option maxHeartbeats 1000000 in
theorem fit_any (s : ByteArray) (k m b B : Nat) (v : Value) (h : Nat → ByteArray) (w : World) (hG : MaxI w) (hs : s.size ≤ 1048576) (hb : b < w.heap.size) (hbc : w.cell? ⟨b, 0, none⟩ = some v) (hv : SliceS w B v m h) (hk : k ≤ m) (hm : m ≤ 1048576) :
    Calls Tryz.prog 224 #[.string s, .int .i64 k, .pointer (some ⟨b, 0, none⟩)] w fun e w' => e = .returned (.bool (fitK s k m h)) ∧ Below w.heap.size w w' := by
  obtain ⟨p2, c2, rfl, g2⟩ := hv
  have HG : Hid (MaxI w) := hG
  have G2 : Hid (0 < m → ∃ g, p2 = some ⟨g, 0, none⟩ ∧ B ≤ g ∧ g < w.heap.size ∧ ∀ j, j < m → w.cell? ⟨g, j, none⟩ = some (.string (h j)) ∧ w.frozen? ⟨g, j, none⟩ = false) := g2
  have HC : Hid (∀ W, MaxI W → Calls Tryz.prog 176 #[.string s, .string ⟨#[46]⟩] W fun e w' => e = .returned (.slice (some ⟨W.heap.size, 0, none⟩) (splitB s 46).length (splitB s 46).length) ∧ w' = W.alloc (.cells (strCells (splitB s 46)).toArray 9)) := fun W h => split_call s W h (by omega)
  have hn := splitB_len s 46
  obtain ⟨n0, hn0⟩ := splitB_ne s 46
  have HN : Hid (¬ (splitB s 46).length + k = m → fitK s k m h = false) := fun e => fitK_other e
  have HY : Hid (∀ n1, (splitB s 46).length = n1 → n1 + k = m → (∀ j, j < n1 → fitAt (atL (splitB s 46)) h k j = false → fitK s k m h = false) ∧ ((∀ j, j < n1 → fitAt (atL (splitB s 46)) h k j = true) → fitK s k m h = true)) := by
    rintro n1 rfl rfl
    rw [Nat.add_comm _ k]
    unfold fitK
    rw [Nat.add_comm _ k, decide_eq_true rfl, Bool.true_and]
    exact ⟨fun j hj hf => fitsB_at j hj hf, fun h => fitsB_all h⟩
  have hAt : ∀ j (hj : j < (splitB s 46).length), (splitB s 46)[j] = atL (splitB s 46) j := fun j hj => by simp [atL, hj]
  have HAt : Hid (∀ j (hj : j < (splitB s 46).length), (splitB s 46)[j] = atL (splitB s 46) j) := hAt
  clear g2 hG hAt
  generalize fitK s k m h = R at *
  generalize splitB s 46 = L at *
  go_enter Tryz.func224, Tryz.ntmps224
  go_wp2_with fail
  refine (HC.out _ HG.out).mono ?_
  rintro e w1 ⟨rfl, rfl⟩
  have hb1 : Below w.heap.size w (w.alloc (.cells (strCells L).toArray 9)) := (Below.refl _ _).alloc (Nat.le_refl _) _
  have hbc1 : (w.alloc (.cells (strCells L).toArray 9)).cell? ⟨b, 0, none⟩ = some (.slice p2 m c2) := by rw [(bcell hb1).1 _ _ hb]; exact hbc
  by_cases hl : L.length + k = m
  · have HY2 := HY.out _ rfl hl
    have q0 : ((L.length : Int) == (m : Int) - (k : Int)) = true := by rw [beq_iff_eq]; omega
    have HC1 : Hid (∀ j, j < L.length → (w.alloc (.cells (strCells L).toArray 9)).cell? ⟨w.heap.size, j, none⟩ = some (.string (atL L j))) := by
      intro j hj
      rw [← HAt.out j hj]
      simp [strCells, hj]
    have HB1 : Hid (Below w.heap.size w (w.alloc (.cells (strCells L).toArray 9))) := hb1
    have HY1 : Hid ((∀ j, j < L.length → fitAt (atL L) h k j = false → R = false) ∧ ((∀ j, j < L.length → fitAt (atL L) h k j = true) → R = true)) := HY2
    have hz1 : w.heap.size < (w.alloc (.cells (strCells L).toArray 9)).heap.size := by simp
    have hmp : 0 < m := by omega
    clear HY HY2 HN hb1 HC HAt
    generalize w.alloc (.cells (strCells L).toArray 9) = w1 at *
    generalize L.length = n at *
    generalize atL L = f at *
    go_wp2
    go_loopw [7, 19] (fun _ i wr => ∃ j : Nat, j ≤ n ∧ i = .int .i64 j ∧ Hid (Below w1.heap.size w1 wr) ∧ Hid (∀ i, i < j → fitAt f h k i = true)) (fun _ i _ => n - (intOf i).toNat)
    case atStart => exact ⟨0, Nat.zero_le _, rfl, Below.refl _ _, fun i hi => absurd hi (by omega)⟩
    case round =>
      obtain ⟨j, hj, rfl, HB, HR⟩ := hrel
      by_cases hlt : j < n
      · obtain ⟨g, rfl, -, hg, hcg⟩ := G2.out hmp
        have d1 : wr.cell? ⟨w.heap.size, j, none⟩ = some (.string (f j)) := by rw [(bcell HB.out).1 _ _ hz1]; exact HC1.out j hlt
        have d2 : wr.cell? ⟨g, k + j, none⟩ = some (.string (h (k + j))) := by
          rw [(bcell HB.out).1 _ _ (by omega), (bcell HB1.out).1 _ _ hg]; exact (hcg (k + j) (by omega)).1
        have d3 : wr.cell? ⟨b, 0, none⟩ = some (.slice (some ⟨g, 0, none⟩) m c2) := by rw [(bcell HB.out).1 _ _ (by omega)]; exact hbc1
        have k0 : (0 : Int) ≤ j := by omega
        have k1 : (j : Int) < n := by omega
        have k2 : (0 : Int) ≤ (k : Int) + j := by omega
        have k3 : (k : Int) + j < (m : Int) := by omega
        have hw : IntKind.i64.wrap ((k : Int) + (j : Int)) = (k : Int) + (j : Int) := by rw [IntKind.wrap_i64]; omega
        clear hcg
        cases hst : ((f j).toList == [42]) with
        | true =>
          have HK : Hid (fitAt f h k j = true) := by show _ = _; rw [fitAt, hst]; rfl
          generalize f j = t at *
          go_wp2
          go_region
          go_wp2
          go_roundw
          case rel =>
            refine ⟨j + 1, by omega, by go_num, HB.out.drew, ?_⟩
            intro i hi
            by_cases e : i = j
            · subst e; exact HK.out
            · exact HR.out i (by omega)
          case measure => simp [intOf]; omega
        | false =>
          cases hsame : ((f j).toList == (h (k + j)).toList) with
          | true =>
            have HK : Hid (fitAt f h k j = true) := by show _ = _; rw [fitAt, hst, hsame]; rfl
            generalize f j = t at *
            generalize h (k + j) = u at *
            go_wp2
            go_region
            go_wp2
            go_roundw
            case rel =>
              refine ⟨j + 1, by omega, by go_num, HB.out.drew, ?_⟩
              intro i hi
              by_cases e : i = j
              · subst e; exact HK.out
              · exact HR.out i (by omega)
            case measure => simp [intOf]; omega
          | false =>
            have HQ : Hid (R = false) := HY1.out.1 j hlt (by rw [fitAt, hst, hsame]; rfl)
            generalize f j = t at *
            generalize h (k + j) = u at *
            go_wp2
            go_region
            go_wp2
            go_ret
            exact ⟨ret_bool HQ.out.symm, HB1.out.trans (HB.out.drew.mono HB1.out.size)⟩
      · go_wp2
        go_ret
        exact ⟨ret_bool (HY1.out.2 (fun i hi => HR.out i (by omega))).symm, HB1.out.trans (HB.out.mono HB1.out.size)⟩
  · have HQ : Hid (R = false) := HN.out hl
    have q0 : ((L.length : Int) == (m : Int) - (k : Int)) = false := by rw [beq_eq_false_iff_ne]; omega
    clear HY HN
    go_wp2
    go_ret
    exact ⟨ret_bool HQ.out.symm, hb1⟩
end Go.Proofs.YtaccgciopmclhaaGreatDoor

/- What a right rule is, in the words of the library's functions. -/
namespace Go.Proofs.YtaccgciopmclhaaGreatDoor

theorem findTo_none {t x : ByteArray} : ∀ {n : Nat}, findTo t x n = none → ∀ i, i < n → ¬ (i + x.size ≤ t.size ∧ isAt t x i = true)
  | 0, _, i, hi => absurd hi (by omega)
  | n + 1, h, i, hi => by
    rw [findTo] at h
    cases hf : findTo t x n with
    | some m => rw [hf] at h; cases h
    | none =>
      rw [hf] at h
      simp only at h
      by_cases e : i = n
      · subst e
        intro hc
        rw [if_pos hc] at h; cases h
      · exact findTo_none hf i (by omega)
theorem isAt_one {t : ByteArray} {c : UInt8} {i : Nat} (h : i < t.size) : isAt t ⟨#[c]⟩ i = true ↔ t.data.toList[i]? = some c := by
  have e : (t.extract i (i + (⟨#[c]⟩ : ByteArray).size)).toList = (t.data.toList.drop i).take 1 := by
    rw [Lib.toList_data, extract_list]
    rw [show (⟨#[c]⟩ : ByteArray).size = 1 from rfl, Nat.add_sub_cancel_left]
  have hl : i < t.data.toList.length := by simpa using h
  unfold isAt
  rw [e, Lib.toList_data, beq_iff_eq, List.drop_eq_getElem_cons hl, List.take_succ_cons, List.take_zero, List.getElem?_eq_getElem hl]
  simp
theorem find_mem (t : ByteArray) (c : UInt8) : 0 ≤ findI t ⟨#[c]⟩ ↔ c ∈ t.data.toList := by
  have h1 : (⟨#[c]⟩ : ByteArray).size = 1 := rfl
  unfold findI findN
  cases hf : findTo t ⟨#[c]⟩ (t.size + 1) with
  | some k =>
    simp only
    obtain ⟨_, hk, ha⟩ := findTo_lt hf
    rw [h1] at hk
    exact ⟨fun _ => List.mem_of_getElem? ((isAt_one (by omega)).1 ha), fun _ => by omega⟩
  | none =>
    simp only
    refine ⟨fun h => absurd h (by omega), fun h => ?_⟩
    obtain ⟨i, hi, e⟩ := List.getElem_of_mem h
    have hi2 : i < t.size := by simpa using hi
    exact absurd ⟨by rw [h1]; omega, (isAt_one hi2).2 (by rw [List.getElem?_eq_getElem hi, e])⟩ (findTo_none hf i (by omega))
theorem bytes_ext {a b : ByteArray} (h : a.data.toList = b.data.toList) : a = b := by
  cases a; cases b
  congr 1
  exact Array.toList_inj.1 h
theorem extract_to (s : ByteArray) (k : Nat) : (s.extract k s.size).data.toList = s.data.toList.drop k := by
  rw [extract_list, List.take_of_length_le]
  rw [List.length_drop, ← Lib.size_eq]
  omega
theorem bangB_lib (s : ByteArray) : bangB s = Lib.hasPrefix s.data.toList [33] := by
  have e := Lib.hasPrefix_raw s ⟨#[33]⟩
  have hd : (⟨#[33]⟩ : ByteArray).data.toList = [33] := rfl
  rw [hd] at e
  rw [← e]
  have h1 : (⟨#[33]⟩ : ByteArray).size = 1 := rfl
  unfold bangB
  rw [h1]
  by_cases h : 0 < s.size
  · have e2 := isAt_one (t := s) (c := 33) h
    unfold isAt at e2
    rw [h1, Nat.zero_add] at e2
    rw [decide_eq_true (show 1 ≤ s.size by omega), Bool.true_and]
    have hl : 0 < s.data.toList.length := by simpa using h
    rw [List.getElem?_eq_getElem hl, byte_list h] at e2
    rw [Bool.eq_iff_iff, decide_eq_true_iff, e2]
    constructor
    · rintro ⟨_, h3⟩
      congr 1
      exact UInt8.toNat_inj.1 h3
    · intro h3
      exact ⟨h, by rw [Option.some.inj h3]; rfl⟩
  · rw [decide_eq_false (show ¬ 1 ≤ s.size by omega), Bool.false_and, decide_eq_false_iff_not]
    rintro ⟨h2, _⟩; exact h h2
theorem starB_lib (s : ByteArray) : starB s = (decide (2 < s.size) && Lib.hasPrefix s.data.toList [42, 46]) := by
  have e := Lib.hasPrefix_raw s ⟨#[42, 46]⟩
  have hd : (⟨#[42, 46]⟩ : ByteArray).data.toList = [42, 46] := rfl
  have hd2 : (⟨#[42, 46]⟩ : ByteArray).toList = [42, 46] := by rw [Lib.toList_data]
  have h2 : (⟨#[42, 46]⟩ : ByteArray).size = 2 := rfl
  rw [hd, hd2, h2] at e
  unfold starB
  rw [← e]
  by_cases h : 2 < s.size
  · rw [decide_eq_true (show 2 ≤ s.size by omega), Bool.true_and]
  · rw [decide_eq_false h]; simp
/-- without the exclamation mark -/
def unbang (s : ByteArray) : ByteArray := ⟨(Lib.trimPrefix s.data.toList [33]).toArray⟩
theorem unbang_yes {s : ByteArray} (h : bangB s = true) : unbang s = s.extract 1 s.size := by
  rw [bangB_lib] at h
  apply bytes_ext
  rw [extract_to, unbang, Lib.trimPrefix, if_pos h]
  simp
/-- without the star and the point -/
def unstar (s : ByteArray) : ByteArray := ⟨(Lib.trimPrefix s.data.toList [42, 46]).toArray⟩
theorem hostB_starpoint : hostB ⟨#[42, 46]⟩ = false := hostB_at 0 (by decide) (by decide)
theorem hostB_empty : hostB ⟨#[]⟩ = false := hostB_at 0 (by decide) (by decide)
theorem ruleB_yes {s : ByteArray} (h : bangB s = true) : ruleB s = (hostB (unbang s) && decide (0 ≤ Lib.indexByte (unbang s).data.toList 46)) := by
  rw [ruleB_bang h, unbang_yes h]
  congr 1
  rw [← Lib.contains_iff_indexByte, extract_to, Bool.eq_iff_iff, decide_eq_true_iff, find_mem, List.contains_iff_mem]
  have hp : Lib.hasPrefix s.data.toList [33] = true := by rw [← bangB_lib]; exact h
  unfold Lib.hasPrefix at hp
  obtain ⟨r, hr⟩ := List.isPrefixOf_iff_prefix.1 hp
  rw [← hr]
  simp
theorem ruleB_no {s : ByteArray} (h : bangB s = false) : ruleB s = hostB (unstar s) := by
  have hst := starB_lib s
  cases hp : Lib.hasPrefix s.data.toList [42, 46] with
  | false =>
    rw [hp, Bool.and_false] at hst
    rw [ruleB_host h hst]
    congr 1
    apply bytes_ext
    rw [unstar, Lib.trimPrefix, if_neg (by rw [hp]; decide)]
  | true =>
    rw [hp, Bool.and_true] at hst
    by_cases h2 : 2 < s.size
    · rw [decide_eq_true h2] at hst
      rw [ruleB_star h hst]
      congr 1
      apply bytes_ext
      rw [extract_to, unstar, Lib.trimPrefix, if_pos hp]
      simp
    · rw [decide_eq_false h2] at hst
      rw [ruleB_host h hst]
      have hle : s.data.toList.length ≤ 2 := by rw [← Lib.size_eq]; omega
      unfold Lib.hasPrefix at hp
      have hp2 := List.isPrefixOf_iff_prefix.1 hp
      have e : s.data.toList = [42, 46] := (hp2.eq_of_length_le (by simpa using hle)).symm
      have e1 : s = ⟨#[42, 46]⟩ := bytes_ext (by rw [e])
      have e2 : unstar s = ⟨#[]⟩ := bytes_ext (by rw [unstar, e]; rfl)
      rw [e2, hostB_empty, e1, hostB_starpoint]
theorem unbang_le (s : ByteArray) : (unbang s).size ≤ s.size := by
  have : (unbang s).size = (Lib.trimPrefix s.data.toList [33]).length := by simp [unbang, ByteArray.size]
  rw [this, Lib.size_eq s]
  unfold Lib.trimPrefix
  split
  · rw [List.length_drop]; omega
  · exact Nat.le_refl _
theorem unstar_le (s : ByteArray) : (unstar s).size ≤ s.size := by
  have : (unstar s).size = (Lib.trimPrefix s.data.toList [42, 46]).length := by simp [unstar, ByteArray.size]
  rw [this, Lib.size_eq s]
  unfold Lib.trimPrefix
  split
  · rw [List.length_drop]; omega
  · exact Nat.le_refl _
end Go.Proofs.YtaccgciopmclhaaGreatDoor

/- The rules apart; the fitting one of most labels begins first; so the suffix's labels are those that the specification counts. -/
namespace Go.Proofs.YtaccgciopmclhaaGreatDoor

/-- of the first i rules those with an exclamation mark, which is taken off -/
def exL (f : Nat → ByteArray) : Nat → List ByteArray
  | 0 => []
  | i + 1 => if bangB (f i) = true then exL f i ++ [unbang (f i)] else exL f i
/-- the others -/
def otL (f : Nat → ByteArray) : Nat → List ByteArray
  | 0 => []
  | i + 1 => if bangB (f i) = true then otL f i else otL f i ++ [f i]
theorem exL_len (f : Nat → ByteArray) : ∀ i, (exL f i).length ≤ i
  | 0 => Nat.le_refl _
  | i + 1 => by
    have := exL_len f i
    rw [exL]; split
    · simp; omega
    · omega
theorem otL_len (f : Nat → ByteArray) : ∀ i, (otL f i).length ≤ i
  | 0 => Nat.le_refl _
  | i + 1 => by
    have := otL_len f i
    rw [otL]; split
    · omega
    · simp; omega
theorem exL_small {f : Nat → ByteArray} {N : Nat} : ∀ {i}, (∀ j, j < i → (f j).size ≤ N) → ∀ x ∈ exL f i, x.size ≤ N
  | 0, _, x, hx => by cases hx
  | i + 1, h, x, hx => by
    rw [exL] at hx
    split at hx
    · rw [List.mem_append, List.mem_singleton] at hx
      rcases hx with hx | hx
      · exact exL_small (fun j hj => h j (by omega)) x hx
      · rw [hx]; exact Nat.le_trans (unbang_le _) (h i (by omega))
    · exact exL_small (fun j hj => h j (by omega)) x hx
theorem otL_small {f : Nat → ByteArray} {N : Nat} : ∀ {i}, (∀ j, j < i → (f j).size ≤ N) → ∀ x ∈ otL f i, x.size ≤ N
  | 0, _, x, hx => by cases hx
  | i + 1, h, x, hx => by
    rw [otL] at hx
    split at hx
    · exact otL_small (fun j hj => h j (by omega)) x hx
    · rw [List.mem_append, List.mem_singleton] at hx
      rcases hx with hx | hx
      · exact otL_small (fun j hj => h j (by omega)) x hx
      · rw [hx]; exact h i (by omega)

def fitT (s : ByteArray) (m : Nat) (h : Nat → ByteArray) : Bool := fitsB (splitB s 46).length (atL (splitB s 46)) m h
theorem fitT_len {s : ByteArray} {m : Nat} {h : Nat → ByteArray} (e : fitT s m h = true) : (splitB s 46).length ≤ m := by
  unfold fitT fitsB at e
  rw [Bool.and_eq_true, decide_eq_true_eq] at e
  exact e.1
/-- the most labels of a rule of a list that fits; 0 if none does -/
def mxL (m : Nat) (h : Nat → ByteArray) : List ByteArray → Nat
  | [] => 0
  | r :: L => if fitT r m h = true then max (splitB r 46).length (mxL m h L) else mxL m h L
theorem mxL_snoc (m : Nat) (h : Nat → ByteArray) (r : ByteArray) : ∀ L, mxL m h (L ++ [r]) = if fitT r m h = true then max (mxL m h L) (splitB r 46).length else mxL m h L
  | [] => by simp [mxL]
  | x :: L => by
    rw [List.cons_append, mxL, mxL_snoc m h r L, mxL]
    split
    · split
      · rw [Nat.max_assoc]
      · rfl
    · rfl
theorem mxL_le (m : Nat) (h : Nat → ByteArray) : ∀ L, mxL m h L ≤ m
  | [] => Nat.zero_le _
  | r :: L => by
    have ih := mxL_le m h L
    rw [mxL]; split
    · rename_i e
      have := fitT_len e
      omega
    · exact ih
theorem mxL_ge {m : Nat} {h : Nat → ByteArray} {r : ByteArray} (e : fitT r m h = true) : ∀ {L}, r ∈ L → (splitB r 46).length ≤ mxL m h L
  | [], hr => by cases hr
  | x :: L, hr => by
    rw [mxL]
    rcases List.mem_cons.1 hr with hx | hx
    · subst hx; rw [if_pos e]; omega
    · have := mxL_ge e hx
      split <;> omega
theorem mxL_at (m : Nat) (h : Nat → ByteArray) : ∀ L, 0 < mxL m h L → ∃ r ∈ L, fitT r m h = true ∧ (splitB r 46).length = mxL m h L
  | [], h0 => absurd h0 (by simp [mxL])
  | x :: L, h0 => by
    rw [mxL] at h0 ⊢
    split at h0
    · rename_i e
      rw [if_pos e]
      by_cases hc : (splitB x 46).length < mxL m h L
      · obtain ⟨r, hr, hf, hl⟩ := mxL_at m h L (by omega)
        exact ⟨r, by simp [hr], hf, by omega⟩
      · exact ⟨x, by simp, e, by omega⟩
    · rename_i e
      rw [if_neg e]
      obtain ⟨r, hr, hf, hl⟩ := mxL_at m h L h0
      exact ⟨r, by simp [hr], hf, hl⟩
theorem fitR_bang {s : ByteArray} {m : Nat} {h : Nat → ByteArray} (e : bangB s = true) : fitR s m h = fitT (unbang s) m h ∧ (ruleL s).length = (splitB (unbang s) 46).length := by
  have : ruleL s = splitB (unbang s) 46 := by rw [ruleL, if_pos e, unbang_yes e]
  unfold fitR fitT
  rw [this]; exact ⟨rfl, rfl⟩
theorem fitR_plain {s : ByteArray} {m : Nat} {h : Nat → ByteArray} (e : ¬ bangB s = true) : fitR s m h = fitT s m h ∧ (ruleL s).length = (splitB s 46).length := by
  have : ruleL s = splitB s 46 := by rw [ruleL, if_neg e]
  unfold fitR fitT
  rw [this]; exact ⟨rfl, rfl⟩
theorem cntTo_apart (f : Nat → ByteArray) (m : Nat) (h : Nat → ByteArray) : ∀ i, cntTo f m h i = (max 1 (mxL m h (otL f i)), mxL m h (exL f i))
  | 0 => rfl
  | i + 1 => by
    rw [cntTo, cntTo_apart f m h i, otL, exL]
    by_cases hb : bangB (f i) = true
    · rw [if_pos hb, if_pos hb, if_pos hb, mxL_snoc, (fitR_bang hb).1, (fitR_bang hb (m := m) (h := h)).2]
      split <;> rfl
    · rw [if_neg hb, if_neg hb, if_neg hb, mxL_snoc, (fitR_plain hb).1, (fitR_plain hb (m := m) (h := h)).2]
      split
      · rw [Nat.max_assoc]
      · rfl
/-- with which of the m labels the fitting rule of most labels begins; m, if none fits -/
def longN (L : List ByteArray) (m : Nat) (h : Nat → ByteArray) : Nat := m - mxL m h L
theorem fitK_fitT {s : ByteArray} {k m : Nat} {h : Nat → ByteArray} (e : fitK s k m h = true) : fitT s m h = true ∧ (splitB s 46).length + k = m := by
  unfold fitK at e
  rw [Bool.and_eq_true, decide_eq_true_eq] at e
  exact ⟨e.2, e.1⟩
theorem longN_hit {L : List ByteArray} {m : Nat} {h : Nat → ByteArray} {k : Nat} {r : ByteArray} (hlow : ∀ j, j < k → ∀ x ∈ L, fitK x j m h = false) (hr : r ∈ L) (he : fitK r k m h = true) : longN L m h = k := by
  obtain ⟨hf, hl⟩ := fitK_fitT he
  have h1 := mxL_ge hf hr
  have h2 := mxL_le m h L
  unfold longN
  by_cases hlt : m - mxL m h L < k
  · obtain ⟨n0, hn0⟩ := splitB_ne r 46
    obtain ⟨x, hx, hfx, hlx⟩ := mxL_at m h L (by omega)
    have := hlow (m - mxL m h L) hlt x hx
    rw [fitK, decide_eq_true (by omega), Bool.true_and] at this
    unfold fitT at hfx
    rw [hfx] at this; cases this
  · omega
theorem longN_none {L : List ByteArray} {m : Nat} {h : Nat → ByteArray} (hlow : ∀ j, j < m → ∀ x ∈ L, fitK x j m h = false) : longN L m h = m := by
  have h2 := mxL_le m h L
  unfold longN
  by_cases h0 : 0 < mxL m h L
  · obtain ⟨x, hx, hfx, hlx⟩ := mxL_at m h L h0
    have := hlow (m - mxL m h L) (by omega) x hx
    rw [fitK, decide_eq_true (by omega), Bool.true_and] at this
    unfold fitT at hfx
    rw [hfx] at this; cases this
  · omega
theorem longN_le (L : List ByteArray) (m : Nat) (h : Nat → ByteArray) : longN L m h ≤ m := Nat.sub_le _ _
/-- where the suffix begins -/
def beginN (n : Nat) (f : Nat → ByteArray) (m : Nat) (h : Nat → ByteArray) : Nat := if longN (exL f n) m h < m then longN (exL f n) m h + 1 else min (longN (otL f n) m h) (m - 1)
theorem beginN_count (n : Nat) (f : Nat → ByteArray) {m : Nat} (h : Nat → ByteArray) (hm : 1 ≤ m) : beginN n f m h = m - countN n f m h ∧ beginN n f m h ≤ m := by
  have h1 := mxL_le m h (exL f n)
  have h2 := mxL_le m h (otL f n)
  unfold beginN countN longN
  rw [cntTo_apart]
  simp only
  by_cases h0 : 0 < mxL m h (exL f n)
  · rw [if_pos (by omega), if_pos h0]; omega
  · rw [if_neg (by omega), if_neg h0]; omega
end Go.Proofs.YtaccgciopmclhaaGreatDoor

/- The walk of the program's longestFit. -/
namespace Go.Proofs.YtaccgciopmclhaaGreatDoor
open Go.RowKit

set_option maxRecDepth 10000 in
set_option maxHeartbeats 2000000 in
theorem longest_any (v1 v2 : Value) (B1 B2 m : Nat) (L : List ByteArray) (h : Nat → ByteArray) (w : World) (hG : MaxI w) (h1 : SliceS w B1 v1 L.length (atL L)) (h2 : SliceS w B2 v2 m h) (l1 : L.length ≤ 1048576) (l2 : m ≤ 1048576) (hL : ∀ x ∈ L, x.size ≤ 1048576) :
    Calls Tryz.prog 217 #[v1, v2] w fun e w' => e = .returned (.int .i64 (longN L m h : Nat)) ∧ Below w.heap.size w w' := by
  have H2 : Hid (SliceS w B2 v2 m h) := h2
  obtain ⟨p1, c1, rfl, g1⟩ := h1
  have G1 : Hid (0 < L.length → ∃ g, p1 = some ⟨g, 0, none⟩ ∧ B1 ≤ g ∧ g < w.heap.size ∧ ∀ j, j < L.length → w.cell? ⟨g, j, none⟩ = some (.string (atL L j)) ∧ w.frozen? ⟨g, j, none⟩ = false) := g1
  obtain ⟨p2, c2, rfl, -⟩ := h2
  have HG : Hid (MaxI w) := hG
  have HH : Hid (∀ k r, (∀ j, j < k → ∀ x ∈ L, fitK x j m h = false) → r ∈ L → fitK r k m h = true → longN L m h = k) := fun k r a b c => longN_hit a b c
  have HN : Hid ((∀ j, j < m → ∀ x ∈ L, fitK x j m h = false) → longN L m h = m) := fun a => longN_none a
  have HM : Hid (∀ i, i < L.length → atL L i ∈ L) := fun i hi => by
    have : atL L i = L[i] := by simp [atL, hi]
    rw [this]; exact List.getElem_mem hi
  have HI : Hid (∀ x ∈ L, ∃ i, i < L.length ∧ x = atL L i) := fun x hx => by
    obtain ⟨i, hi, e⟩ := List.getElem_of_mem hx
    exact ⟨i, hi, by simp [atL, hi, e]⟩
  have HF : Hid (∀ (i k b : Nat) (W : World), i < L.length → k ≤ m → MaxI W → b < W.heap.size → W.cell? ⟨b, 0, none⟩ = some (.slice p2 m c2) → SliceS W B2 (.slice p2 m c2) m h →
      Calls Tryz.prog 224 #[.string (atL L i), .int .i64 k, .pointer (some ⟨b, 0, none⟩)] W fun e w' => e = .returned (.bool (fitK (atL L i) k m h)) ∧ Below W.heap.size W w') :=
    fun i k b W hi hk hM hb hc hs => fit_any (atL L i) k m b B2 _ h W hM (hL _ (HM.out i hi)) hb hc hs hk l2
  have hmf : ∀ (fn : Fn) (first cap : Array Value) (w : World), (Instr.makeFunc fn first cap).run Tryz.prog w = .ok (.func fn first cap) w := fun _ _ _ _ => rfl
  clear g1 hG hL
  generalize longN L m h = R at *
  generalize atL L = f at *
  go_enter Tryz.func217, Tryz.ntmps217
  go_wp2
  go_step3
  go_wp2
  go_step3
  go_wp2
  have hb0 : Below w.heap.size w (w.alloc (.cells #[.slice p2 m c2] 22)) := (Below.refl _ _).alloc (Nat.le_refl _) _
  have hz0 : w.heap.size < (w.alloc (.cells #[.slice p2 m c2] 22)).heap.size := by simp
  have hc0 : (w.alloc (.cells #[.slice p2 m c2] 22)).cell? ⟨w.heap.size, 0, none⟩ = some (.slice p2 m c2) := by simp
  have HB0 : Hid (Below w.heap.size w (w.alloc (.cells #[.slice p2 m c2] 22))) := hb0
  clear hb0
  generalize w.alloc (.cells #[.slice p2 m c2] 22) = w0 at *
  go_loopg [6, 15] m (fun g s6 s15 wx => ∃ k : Nat, k + g = m ∧ s6 = .int .i64 m ∧ s15 = .int .i64 k ∧ Hid (Below w0.heap.size w0 wx) ∧ Hid (∀ j, j < k → ∀ x ∈ L, fitK x j m h = false))
  case atStart => exact ⟨0, by omega, rfl, rfl, Below.refl _ _, fun j hj => absurd hj (by omega)⟩
  case round =>
    obtain ⟨k, hkg, rfl, rfl, HB, HK⟩ := hrel
    cases gk with
    | zero =>
      have hkz : ¬ ((k : Int) < (m : Int)) := by omega
      have HQ : Hid (R = m) := HN.out (fun j hj => HK.out j (by omega))
      go_wp2
      try rw [Exit.noGoto_ret]
      go_ret
      exact ⟨ret_int (by rw [HQ.out]), HB0.out.trans (HB.out.mono HB0.out.size)⟩
    | succ g =>
      have hkz : (k : Int) < (m : Int) := by omega
      go_wp2
      go_loopg [6, 20] L.length (fun g2 s6 s20 wy => ∃ i : Nat, i + g2 = L.length ∧ s6 = .int .i64 m ∧ s20 = .int .i64 i ∧ Hid (Below w0.heap.size w0 wy) ∧ Hid (∀ j, j < i → fitK (f j) k m h = false))
      case atStart => exact ⟨0, by omega, rfl, rfl, HB, fun j hj => absurd hj (by omega)⟩
      case round =>
        obtain ⟨i, hig, rfl, rfl, HB2, HJ⟩ := hrel
        cases gk with
        | zero =>
          have hiz : ¬ ((i : Int) < (L.length : Int)) := by omega
          go_wp2
          go_roundg g
          case measure => omega
          case rel =>
            refine ⟨k + 1, by omega, rfl, by go_num, HB2, ?_⟩
            intro j hj x hx
            by_cases e : j = k
            · subst e
              obtain ⟨i', hi', rfl⟩ := HI.out x hx
              exact HJ.out i' (by omega)
            · exact HK.out j (by omega) x hx
        | succ g2 =>
          have hiz : (i : Int) < (L.length : Int) := by omega
          have hiz0 : (0 : Int) ≤ (i : Int) := by omega
          obtain ⟨g1, rfl, -, hg1, hc1⟩ := G1.out (by omega)
          have B2' : Below w.heap.size w wr := HB0.out.trans (HB2.out.mono HB0.out.size)
          have d1 : wr.cell? ⟨g1, i, none⟩ = some (.string (f i)) := by rw [(bcell B2').1 _ _ hg1]; exact (hc1 i (by omega)).1
          have d2 : wr.cell? ⟨w.heap.size, 0, none⟩ = some (.slice p2 m c2) := by rw [(bcell HB2.out).1 _ _ hz0]; exact hc0
          have KF0 := HF.out i k w.heap.size wr (by omega) (by omega) (HG.out.on B2') (by have := HB2.out.size; omega) d2 (H2.out.below B2')
          clear hc1 B2'
          cases hfit : fitK (f i) k m h with
          | true =>
            have HQ : Hid (R = k) := HH.out k (f i) HK.out (HM.out i (by omega)) hfit
            rw [hfit] at KF0
            have KF : Hid (Calls Tryz.prog 224 #[.string (f i), .int .i64 k, .pointer (some ⟨w.heap.size, 0, none⟩)] wr fun e w' => e = .returned (.bool true) ∧ Below wr.heap.size wr w') := KF0
            clear KF0 hfit
            generalize f i = t at *
            go_wp2_with (go_at_call 224; refine KF.out.mono ?_; rintro e w3 ⟨rfl, hb3⟩)
            try rw [Exit.noGoto_ret]
            go_ret
            exact ⟨ret_int (by rw [HQ.out]), HB0.out.trans ((HB2.out.trans (hb3.mono HB2.out.size)).mono HB0.out.size)⟩
          | false =>
            have HQ : Hid (fitK (f i) k m h = false) := hfit
            rw [hfit] at KF0
            have KF : Hid (Calls Tryz.prog 224 #[.string (f i), .int .i64 k, .pointer (some ⟨w.heap.size, 0, none⟩)] wr fun e w' => e = .returned (.bool false) ∧ Below wr.heap.size wr w') := KF0
            clear KF0 hfit
            generalize hx : f i = t at *
            have HX : Hid (f i = t) := hx
            clear hx
            go_wp2_with (go_at_call 224; refine KF.out.mono ?_; rintro e w3 ⟨rfl, hb3⟩)
            go_roundg g2
            case measure => omega
            case rel =>
              refine ⟨i + 1, by omega, rfl, by go_num, HB2.out.trans (hb3.mono HB2.out.size), ?_⟩
              intro j hj
              by_cases e : j = i
              · subst e; rw [HX.out]; exact HQ.out
              · exact HJ.out j (by omega)
end Go.Proofs.YtaccgciopmclhaaGreatDoor

/- The walk of the program's RuleRight. -/
namespace Go.Proofs.YtaccgciopmclhaaGreatDoor
open Go.RowKit

theorem cutBang_call (s : ByteArray) (w : World) :
    Calls Tryz.prog 186 #[.string s, .string ⟨#[33]⟩] w fun e w' => e = .returned (.tuple #[.string (unbang s), .bool (bangB s)]) ∧ w' = w := by
  have h := Any.strings_CutPrefix Tryz.lays103 s ⟨#[33]⟩ w
  rw [bangB_lib]
  exact h
theorem trimStar_call (s : ByteArray) (w : World) :
    Calls Tryz.prog 188 #[.string s, .string ⟨#[42, 46]⟩] w fun e w' => e = .returned (.string (unstar s)) ∧ w' = w :=
  Any.strings_TrimPrefix Tryz.lays101 s ⟨#[42, 46]⟩ w
theorem hasPoint_call (s : ByteArray) (w : World) :
    Calls Tryz.prog 187 #[.string s, .string ⟨#[46]⟩] w fun e w' => e = .returned (.bool (decide (0 ≤ Lib.indexByte s.data.toList 46))) ∧ w' = w :=
  Any.strings_Contains_one Tryz.lays144 s 46 w

set_option maxRecDepth 10000 in
set_option maxHeartbeats 400000 in
theorem ruleRight_any (s : ByteArray) (w : World) (hG : MaxI w) (hs : s.size ≤ 1048576) :
    Calls Tryz.prog 171 #[.string s] w fun e w' => e = .returned (.bool (ruleB s)) ∧ Below w.heap.size w w' := by
  have HC : Hid (∀ W, Calls Tryz.prog 186 #[.string s, .string ⟨#[33]⟩] W fun e w' => e = .returned (.tuple #[.string (unbang s), .bool (bangB s)]) ∧ w' = W) := fun W => cutBang_call s W
  cases hb : bangB s with
  | true =>
    have HR : Hid (ruleB s = (hostB (unbang s) && decide (0 ≤ Lib.indexByte (unbang s).data.toList 46))) := ruleB_yes hb
    rw [hb] at HC
    have hz := unbang_le s
    have HH : Hid (Calls Tryz.prog 139 #[.string (unbang s)] w fun e w' => e = .returned (.bool (hostB (unbang s))) ∧ Below w.heap.size w w') := hostRight_any (unbang s) w hG (by omega)
    have HP : Hid (∀ W, Calls Tryz.prog 187 #[.string (unbang s), .string ⟨#[46]⟩] W fun e w' => e = .returned (.bool (decide (0 ≤ Lib.indexByte (unbang s).data.toList 46))) ∧ w' = W) := fun W => hasPoint_call (unbang s) W
    clear hb hG hz
    generalize decide (0 ≤ Lib.indexByte (unbang s).data.toList 46) = p at *
    generalize hostB (unbang s) = b at *
    generalize unbang s = u at *
    cases b with
    | false =>
      go_enter Tryz.func171, Tryz.ntmps171
      go_wp2_with (first | (go_at_call 186; refine (HC.out _).mono ?_; rintro e w1 ⟨rfl, rfl⟩) | (go_at_call 139; refine HH.out.mono ?_; rintro e w2 ⟨rfl, hb2⟩))
      go_ret
      exact ⟨ret_bool (by rw [HR.out]; rfl), hb2⟩
    | true =>
      go_enter Tryz.func171, Tryz.ntmps171
      go_wp2_with (first | (go_at_call 186; refine (HC.out _).mono ?_; rintro e w1 ⟨rfl, rfl⟩) | (go_at_call 139; refine HH.out.mono ?_; rintro e w2 ⟨rfl, hb2⟩) | (go_at_call 187; refine (HP.out _).mono ?_; rintro e w3 ⟨rfl, rfl⟩))
      go_ret
      exact ⟨ret_bool (by rw [HR.out]; rfl), hb2⟩
  | false =>
    have HR : Hid (ruleB s = hostB (unstar s)) := ruleB_no hb
    rw [hb] at HC
    have hz := unstar_le s
    have HH : Hid (Calls Tryz.prog 139 #[.string (unstar s)] w fun e w' => e = .returned (.bool (hostB (unstar s))) ∧ Below w.heap.size w w') := hostRight_any (unstar s) w hG (by omega)
    have HP : Hid (∀ W, Calls Tryz.prog 188 #[.string s, .string ⟨#[42, 46]⟩] W fun e w' => e = .returned (.string (unstar s)) ∧ w' = W) := fun W => trimStar_call s W
    clear hb hG hz
    generalize hostB (unstar s) = b at *
    generalize unstar s = u at *
    go_enter Tryz.func171, Tryz.ntmps171
    go_wp2_with (first | (go_at_call 186; refine (HC.out _).mono ?_; rintro e w1 ⟨rfl, rfl⟩) | (go_at_call 139; refine HH.out.mono ?_; rintro e w2 ⟨rfl, hb2⟩) | (go_at_call 188; refine (HP.out _).mono ?_; rintro e w3 ⟨rfl, rfl⟩))
    go_ret
    exact ⟨ret_bool (by rw [HR.out]), hb2⟩
end Go.Proofs.YtaccgciopmclhaaGreatDoor

/- The walk of the program's rulesApart. -/
namespace Go.Proofs.YtaccgciopmclhaaGreatDoor
open Go.RowKit

/-- two slices lie in two rows -/
def Apart (u v : Value) : Prop := ∀ b, u.ownBlock = some b → ¬ v.ownBlock = some b
theorem own_kept {w w' : World} {base n size : Nat} {e : TypeId} {v : Value} {xs : List Value} {row : Option Nat} (h : w.ownsRow base e size v n xs) (hg : w.grownBy w' row) (hne : ∀ b, v.ownBlock = some b → ¬ row = some b) : w'.ownsRow base e size v n xs := by
  obtain ⟨hl, ⟨rfl, h0⟩ | ⟨g, cap, cur, rfl, hb, hh, r⟩⟩ := h
  · exact ⟨hl, .inl ⟨rfl, h0⟩⟩
  · refine ⟨hl, .inr ⟨g, cap, cur, rfl, hb, ?_, r⟩⟩
    rw [hg.block g (Array.getElem?_eq_some_iff.mp hh).1 (fun e => hne g rfl (by simpa using e.symm))]
    exact hh
theorem own_lt {w : World} {base n size : Nat} {e : TypeId} {v : Value} {xs : List Value} (h : w.ownsRow base e size v n xs) : ∀ b, v.ownBlock = some b → b < w.heap.size := by
  intro b hb
  obtain ⟨hl, ⟨rfl, h0⟩ | ⟨g, cap, cur, rfl, _, hh, r⟩⟩ := h
  · cases hb
  · obtain rfl : g = b := by simpa [Value.ownBlock] using hb
    exact (Array.getElem?_eq_some_iff.mp hh).1
theorem Apart.symm {u v : Value} (h : Apart u v) : Apart v u := fun b hb hc => h b hc hb
theorem Apart.step {u u' v : Value} {k : Nat} (h : Apart u v) (hat : u'.ownBlock = u.ownBlock ∨ u'.ownBlock = some k) (hv : ∀ b, v.ownBlock = some b → b < k) : Apart u' v := by
  intro b hb hc
  rcases hat with e | e
  · rw [e] at hb; exact h b hb hc
  · rw [e] at hb
    obtain rfl := Option.some.inj hb
    exact absurd (hv _ hc) (by omega)

set_option maxRecDepth 10000 in
set_option maxHeartbeats 2000000 in
theorem apart_any (v : Value) (n B : Nat) (f : Nat → ByteArray) (w : World) (hs : SliceS w B v n f) (hn : n ≤ 1048576) :
    Calls Tryz.prog 216 #[v] w fun e w' => ∃ ve vo, e = .returned (.tuple #[ve, vo]) ∧ SliceS w' w.heap.size ve (exL f n).length (atL (exL f n)) ∧ SliceS w' w.heap.size vo (otL f n).length (atL (otL f n)) ∧ Below w.heap.size w w' := by
  obtain ⟨i0, hi, hz0, hz1, hz2⟩ := info_parts infoStr
  obtain ⟨p, cap, rfl, hg⟩ := hs
  have HG : Hid (0 < n → ∃ g, p = some ⟨g, 0, none⟩ ∧ B ≤ g ∧ g < w.heap.size ∧ ∀ j, j < n → w.cell? ⟨g, j, none⟩ = some (.string (f j)) ∧ w.frozen? ⟨g, j, none⟩ = false) := hg
  clear hg
  go_enter Tryz.func216, Tryz.ntmps216
  go_wp2
  go_loopw [2, 3, 10] (fun ve vo i wr => ∃ k : Nat, k ≤ n ∧ i = .int .i64 k ∧ Hid (wr.ownsRow w.heap.size 9 1 ve (exL f k).length (strCells (exL f k))) ∧ Hid (wr.ownsRow w.heap.size 9 1 vo (otL f k).length (strCells (otL f k))) ∧ Hid (Apart ve vo) ∧ Hid (Below w.heap.size w wr)) (fun _ _ i _ => n - (intOf i).toNat)
  case atStart => exact ⟨0, Nat.zero_le _, rfl, World.ownsRow_nil _ _ _ _, World.ownsRow_nil _ _ _ _, (fun b hb => by simp [Value.ownBlock] at hb : Apart _ _), Below.refl _ _⟩
  case round =>
    obtain ⟨k, hk, rfl, HE, HO, HA, HB⟩ := hrel
    by_cases hlt : k < n
    · obtain ⟨g, rfl, -, hgw, hc⟩ := HG.out (by omega)
      have hck : wr.cell? ⟨g, k, none⟩ = some (.string (f k)) := by rw [(bcell HB.out).1 _ _ hgw]; exact (hc k hlt).1
      have KC0 := fun W => cutBang_call (f k) W
      have k0 : (0 : Int) ≤ k := by omega
      have k1 : (k : Int) < n := by omega
      have hbs := HB.out.size
      have hle := exL_len f k
      have hlo := otL_len f k
      clear hc
      cases hb : bangB (f k) with
      | true =>
        rw [hb] at KC0
        have KC : Hid (∀ W, Calls Tryz.prog 186 #[.string (f k), .string ⟨#[33]⟩] W fun e w' => e = .returned (.tuple #[.string (unbang (f k)), .bool true]) ∧ w' = W) := KC0
        have HE1 : Hid (exL f (k + 1) = exL f k ++ [unbang (f k)]) := by show _ = _; rw [exL, if_pos hb]
        have HO1 : Hid (otL f (k + 1) = otL f k) := by show _ = _; rw [otL, if_pos hb]
        clear KC0 hb
        generalize f k = t at *
        generalize unbang t = u at *
        go_wp2_with (first | (go_at_call 186; refine (KC.out _).mono ?_; rintro e w1 ⟨rfl, rfl⟩) | (at_builtin; go_must (refine wpList_append_own_at _ rfl _ _ 22 rfl w.heap.size 9 i0 (.string ⟨#[]⟩) 1 16 Tryz.underlying22 hi hz0 hz1 hz2 rfl (by decide) _ _ _ rfl (HE.out.alloc _) ⟨w1.heap.size, 0, none⟩ 1 1 [.string u] rfl rfl (cell_one_new _ _ _) (by intro u hu; simp at hu; subst hu; rfl) (by unfold maxLen; omega) (by omega) (by simp; omega) ?_)))
        intro v' w2 hown3 hgrow _ hat
        rw [strCells_snoc] at hown3
        have hb2 : Below w.heap.size w w2 := (HB.out.alloc hbs _).grown hgrow (by simp; omega) (fun j hj => (HE.out.lt j hj).1)
        have hO2 := own_kept (HO.out.alloc (.cells #[.string u] 9)) hgrow HA.out.symm
        have hA2 := HA.out.step hat (fun b hb => by have := own_lt HO.out b hb; simp; omega)
        have G1 : Hid (w2.ownsRow w.heap.size 9 1 v' (exL f k ++ [u]).length (strCells (exL f k ++ [u]))) := by show World.ownsRow _ _ _ _ _ _ _; simpa using hown3
        have G2 : Hid (w2.ownsRow w.heap.size 9 1 u3 (otL f k).length (strCells (otL f k))) := hO2
        have G3 : Hid (Apart v' u3) := hA2
        have G4 : Hid (Below w.heap.size w w2) := hb2
        clear hown3 hgrow hat hb2 hO2 hA2
        go_wp2
        go_roundw
        case rel => exact ⟨k + 1, by omega, by go_num, by rw [HE1.out]; exact G1, by rw [HO1.out]; exact G2, G3, G4⟩
        case measure => simp [intOf]; omega
      | false =>
        rw [hb] at KC0
        have KC : Hid (∀ W, Calls Tryz.prog 186 #[.string (f k), .string ⟨#[33]⟩] W fun e w' => e = .returned (.tuple #[.string (unbang (f k)), .bool false]) ∧ w' = W) := KC0
        have HE1 : Hid (exL f (k + 1) = exL f k) := by show _ = _; rw [exL, if_neg (by rw [hb]; decide)]
        have HO1 : Hid (otL f (k + 1) = otL f k ++ [f k]) := by show _ = _; rw [otL, if_neg (by rw [hb]; decide)]
        clear KC0 hb
        generalize f k = t at *
        generalize unbang t = u at *
        go_wp2_with (first | (go_at_call 186; refine (KC.out _).mono ?_; rintro e w1 ⟨rfl, rfl⟩) | (at_builtin; go_must (refine wpList_append_own_at _ rfl _ _ 22 rfl w.heap.size 9 i0 (.string ⟨#[]⟩) 1 16 Tryz.underlying22 hi hz0 hz1 hz2 rfl (by decide) _ _ _ rfl (HO.out.alloc _) ⟨w1.heap.size, 0, none⟩ 1 1 [.string t] rfl rfl (cell_one_new _ _ _) (by intro u hu; simp at hu; subst hu; rfl) (by unfold maxLen; omega) (by omega) (by simp; omega) ?_)))
        intro v' w2 hown3 hgrow _ hat
        rw [strCells_snoc] at hown3
        have hb2 : Below w.heap.size w w2 := (HB.out.alloc hbs _).grown hgrow (by simp; omega) (fun j hj => (HO.out.lt j hj).1)
        have hE2 := own_kept (HE.out.alloc (.cells #[.string t] 9)) hgrow HA.out
        have hA2 := (HA.out.symm.step hat (fun b hb => by have := own_lt HE.out b hb; simp; omega)).symm
        have G1 : Hid (w2.ownsRow w.heap.size 9 1 v' (otL f k ++ [t]).length (strCells (otL f k ++ [t]))) := by show World.ownsRow _ _ _ _ _ _ _; simpa using hown3
        have G2 : Hid (w2.ownsRow w.heap.size 9 1 u2 (exL f k).length (strCells (exL f k))) := hE2
        have G3 : Hid (Apart u2 v') := hA2
        have G4 : Hid (Below w.heap.size w w2) := hb2
        clear hown3 hgrow hat hb2 hE2 hA2
        go_wp2
        go_roundw
        case rel => exact ⟨k + 1, by omega, by go_num, by rw [HE1.out]; exact G2, by rw [HO1.out]; exact G1, G3, G4⟩
        case measure => simp [intOf]; omega
    · obtain rfl : k = n := by omega
      go_wp2
      go_ret2
      exact ⟨_, _, rfl, slice_of_own HE.out, slice_of_own HO.out, HB.out⟩
end Go.Proofs.YtaccgciopmclhaaGreatDoor

/- The walk of the program's suffixBegin. -/
namespace Go.Proofs.YtaccgciopmclhaaGreatDoor
open Go.RowKit

theorem atL_mem {L : List ByteArray} : ∀ x ∈ L, ∃ i, i < L.length ∧ x = atL L i := fun x hx => by
  obtain ⟨i, hi, e⟩ := List.getElem_of_mem hx
  exact ⟨i, hi, by simp [atL, hi, e]⟩
set_option maxRecDepth 10000 in
set_option maxHeartbeats 1000000 in
theorem begin_any (v1 v2 : Value) (n m B1 B2 : Nat) (f h : Nat → ByteArray) (w : World) (hG : MaxI w) (h1 : SliceS w B1 v1 n f) (h2 : SliceS w B2 v2 m h) (l1 : n ≤ 1048576) (l2 : m ≤ 1048576) (hm : 1 ≤ m) (hf : ∀ i, i < n → (f i).size ≤ 1048576) :
    Calls Tryz.prog 207 #[v1, v2] w fun e w' => e = .returned (.int .i64 (beginN n f m h : Nat)) ∧ Below w.heap.size w w' := by
  have H2 : Hid (SliceS w B2 v2 m h) := h2
  have HG : Hid (MaxI w) := hG
  have KA : Hid (Calls Tryz.prog 216 #[v1] w fun e w' => ∃ ve vo, e = .returned (.tuple #[ve, vo]) ∧ SliceS w' w.heap.size ve (exL f n).length (atL (exL f n)) ∧ SliceS w' w.heap.size vo (otL f n).length (atL (otL f n)) ∧ Below w.heap.size w w') := apart_any v1 n B1 f w h1 l1
  have e1 := exL_len f n
  have e2 := otL_len f n
  have KL : Hid (∀ (v : Value) (B : Nat) (W : World), MaxI W → SliceS W B v (exL f n).length (atL (exL f n)) → SliceS W B2 v2 m h → Calls Tryz.prog 217 #[v, v2] W fun e w' => e = .returned (.int .i64 (longN (exL f n) m h : Nat)) ∧ Below W.heap.size W w') :=
    fun v B W a b c => longest_any v v2 B B2 m (exL f n) h W a b c (by omega) l2 (exL_small hf)
  have KO : Hid (∀ (v : Value) (B : Nat) (W : World), MaxI W → SliceS W B v (otL f n).length (atL (otL f n)) → SliceS W B2 v2 m h → Calls Tryz.prog 217 #[v, v2] W fun e w' => e = .returned (.int .i64 (longN (otL f n) m h : Nat)) ∧ Below W.heap.size W w') :=
    fun v B W a b c => longest_any v v2 B B2 m (otL f n) h W a b c (by omega) l2 (otL_small hf)
  have b1 := longN_le (exL f n) m h
  have b2 := longN_le (otL f n) m h
  have EB : Hid (beginN n f m h = if longN (exL f n) m h < m then longN (exL f n) m h + 1 else min (longN (otL f n) m h) (m - 1)) := rfl
  obtain ⟨p2, c2, rfl, -⟩ := h2
  clear hG h1 hf e1 e2
  generalize beginN n f m h = R at *
  generalize longN (exL f n) m h = x at *
  generalize longN (otL f n) m h = y at *
  go_enter Tryz.func207, Tryz.ntmps207
  go_wp2_with fail
  refine KA.out.mono ?_
  rintro e w1 ⟨ve, vo, rfl, se, so, hb1⟩
  have SO : Hid (SliceS w1 w.heap.size vo (otL f n).length (atL (otL f n))) := so
  have SE : Hid (SliceS w1 w.heap.size ve (exL f n).length (atL (exL f n))) := se
  have B1' : Hid (Below w.heap.size w w1) := hb1
  clear se so hb1
  go_wp2_with fail
  refine (KL.out ve _ w1 (HG.out.on B1'.out) SE.out (H2.out.below B1'.out)).mono ?_
  rintro e w2 ⟨rfl, hb2⟩
  have SO2 : Hid (SliceS w2 w.heap.size vo (otL f n).length (atL (otL f n))) := SO.out.below hb2
  have B2' : Hid (Below w.heap.size w w2) := B1'.out.trans (hb2.mono B1'.out.size)
  clear hb2 SO SE
  by_cases hx : x < m
  · have HQ : Hid (R = x + 1) := by show _ = _; rw [EB.out, if_pos hx]
    go_wp2
    go_ret
    exact ⟨ret_int (by rw [HQ.out]; omega), B2'.out⟩
  · have HQ : Hid (R = min y (m - 1)) := by show _ = _; rw [EB.out, if_neg hx]
    have KO2 := KO.out vo _ w2 (HG.out.on B2'.out) SO2.out (H2.out.below B2'.out)
    go_wp2_with fail
    refine KO2.mono ?_
    rintro e w3 ⟨rfl, hb3⟩
    clear KO2
    go_wp2
    go_ret
    exact ⟨ret_int (by rw [HQ.out]; omega), B2'.out.trans (hb3.mono B2'.out.size)⟩
end Go.Proofs.YtaccgciopmclhaaGreatDoor

/- The walk of the specification's LabelsOf. -/
namespace Go.Proofs.YtaccgciopmclhaaGreatDoor
open Go.RowKit

end Go.Proofs.YtaccgciopmclhaaGreatDoor

/- The law FnExactLabelsOf, walked, over what the program's LabelsOf answers. -/
namespace Go.Proofs.YtaccgciopmclhaaGreatDoor
open Go.RowKit

/-- a right host's labels, else none -/
def labelsL (s : ByteArray) : List ByteArray := if hostB s = true then splitB s 46 else []
theorem labelsL_len (s : ByteArray) : (labelsL s).length ≤ 101 := by
  unfold labelsL
  split
  · rename_i h
    have hsz : s.size ≤ 100 := by
      by_cases hz : 100 < s.size
      · rw [hostB_size hz] at h; cases h
      · omega
    have := splitB_len s 46
    omega
  · simp

theorem SliceS.far {w w' : World} {B n : Nat} {v : Value} {f : Nat → ByteArray} {K : Nat} (h : SliceS w B v n f) (hK : w.heap.size ≤ K) {u : World} (hs : SliceS u B v n f) (hb : Below K u w') : SliceS w' B v n f := by
  cases n with
  | zero =>
    obtain ⟨p, cap, rfl, h⟩ := hs
    exact ⟨p, cap, rfl, fun h => absurd h (by omega)⟩
  | succ n => exact hs.kept hb (fun g cap m e => Nat.lt_of_lt_of_le (h.lt g cap m e) hK)

end Go.Proofs.YtaccgciopmclhaaGreatDoor

/- The walk of the program's LabelsOf. -/
namespace Go.Proofs.YtaccgciopmclhaaGreatDoor
open Go.RowKit

theorem atL_get {L : List ByteArray} {k : Nat} (h : k < L.length) : atL L k = L[k] := by simp [atL, h]

set_option maxRecDepth 10000 in
set_option maxHeartbeats 400000 in
theorem labelsOf_cap (s : ByteArray) (w : World) (hG : MaxI w) (hs : s.size ≤ 1048576) :
    Calls Tryz.prog 206 #[.string s] w fun e w' => ∃ v, e = .returned v ∧ SliceS w' w.heap.size v (labelsL s).length (atL (labelsL s)) ∧ Below w.heap.size w w' ∧ ∃ p c, v = .slice p (labelsL s).length c ∧ (labelsL s).length ≤ c := by
  cases hh : hostB s with
  | false =>
    have HL : Hid (labelsL s = []) := by
      show _ = _
      rw [labelsL, if_neg (by simp [hh])]
    have HC : Hid (Calls Tryz.prog 139 #[.string s] w fun e w' => e = .returned (.bool false) ∧ Below w.heap.size w w') := by
      have := hostRight_any s w hG hs
      rw [hh] at this; exact this
    clear hh hG
    go_enter Tryz.func206, Tryz.ntmps206
    go_wp2_with (go_at_call 139; refine HC.out.mono ?_; rintro e w1 ⟨rfl, hb⟩)
    go_ret
    exact ⟨_, rfl, by rw [HL.out]; exact ⟨none, 0, rfl, fun h => absurd h (by simp)⟩, hb, by rw [HL.out]; exact ⟨_, _, rfl, Nat.le_refl _⟩⟩
  | true =>
    have HL : Hid (labelsL s = splitB s 46) := by
      show _ = _
      rw [labelsL, if_pos hh]
    have HC : Hid (Calls Tryz.prog 139 #[.string s] w fun e w' => e = .returned (.bool true) ∧ Below w.heap.size w w') := by
      have := hostRight_any s w hG hs
      rw [hh] at this; exact this
    have HS : Hid (∀ W, MaxI W → Calls Tryz.prog 176 #[.string s, .string ⟨#[46]⟩] W fun e w' => e = .returned (.slice (some ⟨W.heap.size, 0, none⟩) (splitB s 46).length (splitB s 46).length) ∧ w' = W.alloc (.cells (strCells (splitB s 46)).toArray 9)) := fun W h => split_call s W h (by omega)
    have hn := splitB_len s 46
    have hsz : s.size ≤ 100 := by
      by_cases hz : 100 < s.size
      · rw [hostB_size hz] at hh; cases hh
      · omega
    have HZ : Hid (∀ x ∈ splitB s 46, x.size ≤ 100) := fun x hx => Nat.le_trans (piece_le hx) hsz
    have HG : Hid (MaxI w) := hG
    clear hh hG
    rw [HL.out]
    clear HL
    generalize splitB s 46 = L at *
    go_enter Tryz.func206, Tryz.ntmps206
    go_wp2_with (go_at_call 139; refine HC.out.mono ?_; rintro e w1 ⟨rfl, hb⟩)
    refine (HS.out _ (HG.out.on hb)).mono ?_
    rintro e w2 ⟨rfl, rfl⟩
    have hcell : ∀ k (h : k < L.length), (w1.alloc (.cells (strCells L).toArray 9)).cell? ⟨w1.heap.size, k, none⟩ = some (.string L[k]) ∧ (w1.alloc (.cells (strCells L).toArray 9)).frozen? ⟨w1.heap.size, k, none⟩ = false := by
      intro k hk
      exact ⟨by simp [strCells, hk], by simp⟩
    have hb2 : Below w.heap.size w (w1.alloc (.cells (strCells L).toArray 9)) := hb.alloc hb.size _
    have hz1 : w1.heap.size < (w1.alloc (.cells (strCells L).toArray 9)).heap.size := by simp
    have hz0 := hb.size
    generalize w1.alloc (.cells (strCells L).toArray 9) = w2 at *
    clear hb
    have HC0 : Hid (∀ k (h : k < L.length), w2.cell? ⟨w1.heap.size, k, none⟩ = some (.string L[k]) ∧ w2.frozen? ⟨w1.heap.size, k, none⟩ = false) := hcell
    have HB0 : Hid (Below w.heap.size w w2) := hb2
    clear hcell hb2
    go_wp2
    go_loopw [13] (fun i wr => ∃ k : Nat, k ≤ L.length ∧ i = .int .i64 k ∧ w1.heap.size < wr.heap.size ∧ Hid (Below w.heap.size w wr) ∧ Hid (∀ j (h : j < L.length), wr.cell? ⟨w1.heap.size, j, none⟩ = some (.string L[j]) ∧ wr.frozen? ⟨w1.heap.size, j, none⟩ = false)) (fun i _ => L.length - (intOf i).toNat)
    case atStart => exact ⟨0, by omega, rfl, hz1, HB0, HC0⟩
    case round =>
      obtain ⟨k, hk, rfl, hzr, HB, HR⟩ := hrel
      by_cases hlt : k < L.length
      · have hck := (HR.out k hlt).1
        have HT : Hid (∀ W, Calls Tryz.prog 182 #[.string L[k], .string ⟨#[]⟩] W fun e w' => e = .returned (.string L[k]) ∧ Below W.heap.size W w') := fun W => together_empty L[k] W (by have := HZ.out L[k] (List.getElem_mem hlt); omega)
        generalize hx : L[k] = x at *
        have HX : Hid (L[k] = x) := hx
        clear hx
        go_wp2_with fail
        refine (HT.out _).mono ?_
        rintro e w3 ⟨rfl, hb3⟩
        have hz3 := hb3.size
        have c1 : w3.cell? ⟨w1.heap.size, k, none⟩ = some (.string x) := by rw [(bcell hb3).1 _ _ hzr]; exact hck
        have c2 : w3.frozen? ⟨w1.heap.size, k, none⟩ = false := by rw [(bcell hb3).2 _ _ hzr]; exact (HR.out k hlt).2
        have HR3 : Hid (∀ j (h : j < L.length), w3.cell? ⟨w1.heap.size, j, none⟩ = some (.string L[j]) ∧ w3.frozen? ⟨w1.heap.size, j, none⟩ = false) := fun j hj => ⟨by rw [(bcell hb3).1 _ _ hzr]; exact (HR.out j hj).1, by rw [(bcell hb3).2 _ _ hzr]; exact (HR.out j hj).2⟩
        have HB3 : Hid (Below w.heap.size w w3) := HB.out.trans (hb3.mono (by omega))
        clear hb3 hck
        go_wp2
        go_roundw
        case rel =>
          refine ⟨k + 1, by omega, by go_num, ?_, ?_, ?_⟩
          · simp [World.setCell]; omega
          · exact HB3.out.setCell (by simpa using hz0) _
          · intro j hj
            by_cases e : j = k
            · subst e
              rw [HX.out]
              exact ⟨World.cell?_setCell_same _ _ _ c1, by rw [World.frozen?_setCell]; exact c2⟩
            · rw [World.cell?_setCell_other _ _ _ _ (by intro h; injection h with _ h; exact e h.symm), World.frozen?_setCell]
              exact HR3.out j hj
        case measure => simp [intOf]; omega
      · go_wp2
        go_ret
        exact ⟨_, rfl, ⟨_, _, rfl, fun _ => ⟨w1.heap.size, rfl, hz0, hzr, fun j hj => by rw [atL_get hj]; exact HR.out j hj⟩⟩, HB.out, _, _, rfl, Nat.le_refl _⟩
theorem labelsOf_any (s : ByteArray) (w : World) (hG : MaxI w) (hs : s.size ≤ 1048576) :
    Calls Tryz.prog 206 #[.string s] w fun e w' => ∃ v, e = .returned v ∧ SliceS w' w.heap.size v (labelsL s).length (atL (labelsL s)) ∧ Below w.heap.size w w' :=
  (labelsOf_cap s w hG hs).mono fun _ _ ⟨v, he, h1, h2, _⟩ => ⟨v, he, h1, h2⟩
end Go.Proofs.YtaccgciopmclhaaGreatDoor

/- The walk of the program's RulesRight. -/
namespace Go.Proofs.YtaccgciopmclhaaGreatDoor
open Go.RowKit

theorem rulesB_many {n : Nat} {f : Nat → ByteArray} (h : 20 < n) : rulesB n f = false := by unfold rulesB; rw [decide_eq_false (show ¬ n ≤ 20 by omega), Bool.and_false]

set_option maxRecDepth 10000 in
set_option maxHeartbeats 1000000 in
theorem rulesRight_any (v : Value) (n B : Nat) (f : Nat → ByteArray) (w : World) (hG : MaxI w) (hs : SliceS w B v n f) (hn : n ≤ 1048576) (hf : ∀ i, i < n → (f i).size ≤ 1048576) :
    Calls Tryz.prog 134 #[v] w fun e w' => e = .returned (.bool (rulesB n f)) ∧ Below w.heap.size w w' := by
  obtain ⟨p, cap, rfl, hg⟩ := hs
  by_cases h20 : 20 < n
  · have HR : Hid (rulesB n f = false) := rulesB_many h20
    go_enter Tryz.func134, Tryz.ntmps134
    go_wp2
    go_ret
    exact ⟨ret_bool HR.out.symm, Below.refl _ _⟩
  have HG : Hid (0 < n → ∃ g, p = some ⟨g, 0, none⟩ ∧ B ≤ g ∧ g < w.heap.size ∧ ∀ j, j < n → w.cell? ⟨g, j, none⟩ = some (.string (f j)) ∧ w.frozen? ⟨g, j, none⟩ = false) := hg
  have HM : Hid (MaxI w) := hG
  have HF : Hid (∀ i, i < n → (f i).size ≤ 1048576) := hf
  have HA : Hid ((∀ k, k < n → okR f k = false → rulesB n f = false) ∧ ((∀ i, i < n → okR f i = true) → rulesB n f = true)) := ⟨fun k h hk => rulesB_at k h hk, fun h => by rw [rulesB_all h, decide_eq_true_iff]; omega⟩
  clear hg hf hG
  have q20 : decide ((20 : Int) < (n : Int)) = false := by rw [decide_eq_false_iff_not]; omega
  have hge : ∀ (t : TypeId) (a b : ByteArray), binOp .geq t (.string a) (.string b) = pure (.bool (!(Op.bytesLess a.toList b.toList))) := geq_text
  generalize rulesB n f = R at *
  go_enter Tryz.func134, Tryz.ntmps134
  go_wp2
  go_loopw [10] (fun i wr => ∃ k : Nat, k ≤ n ∧ i = .int .i64 k ∧ Hid (Below w.heap.size w wr) ∧ Hid (∀ j, j < k → okR f j = true)) (fun i _ => n - (intOf i).toNat)
  case atStart => exact ⟨0, Nat.zero_le _, rfl, Below.refl _ _, fun j hj => absurd hj (by omega)⟩
  case round =>
    obtain ⟨k, hk, rfl, HB, HR⟩ := hrel
    by_cases hlt : k < n
    · obtain ⟨g, rfl, -, hgw, hc⟩ := HG.out (by omega)
      have hz : g < wr.heap.size := Nat.lt_of_lt_of_le hgw HB.out.size
      have hck : wr.cell? ⟨g, k, none⟩ = some (.string (f k)) := by rw [(bcell HB.out).1 _ _ hgw]; exact (hc k hlt).1
      have KR0 := ruleRight_any (f k) wr (HM.out.on HB.out) (HF.out k hlt)
      have k0 : (0 : Int) ≤ k := by omega
      have k1 : (k : Int) < n := by omega
      cases hr : ruleB (f k) with
      | false =>
        have HQ : Hid (R = false) := HA.out.1 k hlt (by cases k with | zero => exact hr | succ m => rw [okR, hr]; rfl)
        rw [hr] at KR0
        have KR : Hid (Calls Tryz.prog 171 #[.string (f k)] wr fun e w' => e = .returned (.bool false) ∧ Below wr.heap.size wr w') := KR0
        clear KR0 hr hc
        generalize f k = t at *
        go_wp2_with (go_at_call 171; refine KR.out.mono ?_; rintro e w1 ⟨rfl, hb1⟩)
        go_ret
        exact ⟨ret_bool HQ.out.symm, HB.out.trans (hb1.mono HB.out.size)⟩
      | true =>
        rw [hr] at KR0
        have KR : Hid (Calls Tryz.prog 171 #[.string (f k)] wr fun e w' => e = .returned (.bool true) ∧ Below wr.heap.size wr w') := KR0
        clear KR0
        cases k with
        | zero =>
          have HO : Hid (okR f 0 = true) := hr
          clear hr hc
          generalize f 0 = t at *
          go_wp2_with (go_at_call 171; refine KR.out.mono ?_; rintro e w1 ⟨rfl, hb1⟩)
          go_roundw
          case rel => exact ⟨1, by omega, by go_num, HB.out.trans (hb1.mono HB.out.size), okR_succ HR.out HO.out⟩
          case measure => simp [intOf]; omega
        | succ m =>
          have hcm : wr.cell? ⟨g, m, none⟩ = some (.string (f m)) := by rw [(bcell HB.out).1 _ _ hgw]; exact (hc m (by omega)).1
          have HCM : Hid (∀ w1, Below wr.heap.size wr w1 → w1.cell? ⟨g, m, none⟩ = some (.string (f m))) := fun w1 hb1 => by rw [(bcell hb1).1 _ _ hz]; exact hcm
          have hw : ((m + 1 : Nat) : Int) - 1 = (m : Int) := by omega
          cases hl : Op.bytesLess (f m).toList (f (m + 1)).toList with
          | true =>
            have HO : Hid (okR f (m + 1) = true) := by show _ = _; rw [okR, hr, hl]; rfl
            clear hr hc hcm
            generalize f m = t0 at *
            generalize f (m + 1) = t at *
            go_wp2_with (go_at_call 171; refine KR.out.mono ?_; rintro e w1 ⟨rfl, hb1⟩; have hcm1 := HCM.out w1 hb1)
            go_roundw
            case rel => exact ⟨m + 2, by omega, by go_num, HB.out.trans (hb1.mono HB.out.size), okR_succ HR.out HO.out⟩
            case measure => simp [intOf]; omega
          | false =>
            have HQ : Hid (R = false) := HA.out.1 (m + 1) hlt (by rw [okR, hr, hl]; rfl)
            clear hr hc hcm
            generalize f m = t0 at *
            generalize f (m + 1) = t at *
            go_wp2_with (go_at_call 171; refine KR.out.mono ?_; rintro e w1 ⟨rfl, hb1⟩; have hcm1 := HCM.out w1 hb1)
            go_ret
            exact ⟨ret_bool HQ.out.symm, HB.out.trans (hb1.mono HB.out.size)⟩
    · go_wp2
      go_ret
      exact ⟨ret_bool (HA.out.2 (fun i hi => HR.out i (by omega))).symm, HB.out⟩
end Go.Proofs.YtaccgciopmclhaaGreatDoor

/- What the specification puts together label by label is what the library joins. -/
namespace Go.Proofs.YtaccgciopmclhaaGreatDoor

theorem join_snoc (y sep : List UInt8) : ∀ xs : List (List UInt8), Lib.join (xs ++ [y]) sep = if xs = [] then y else Lib.join xs sep ++ sep ++ y
  | [] => by simp [Lib.join_one]
  | x :: xs => by
    rw [if_neg (by simp), List.cons_append, Lib.join_cons, Lib.join_cons]
    simp [Lib.joinTail]
/-- n texts from place d on -/
def partL (f : Nat → ByteArray) (d n : Nat) : List ByteArray := (List.range n).map (fun i => f (d + i))
theorem partL_len (f : Nat → ByteArray) (d n : Nat) : (partL f d n).length = n := by simp [partL]
theorem partL_get {f : Nat → ByteArray} {d n j : Nat} {x : ByteArray} (h : (partL f d n)[j]? = some x) : j < n ∧ x = f (d + j) := by
  have hj : j < n := by
    have := (List.getElem?_eq_some_iff.1 h).1
    rwa [partL_len] at this
  refine ⟨hj, ?_⟩
  simp [partL, hj] at h
  exact h.symm
theorem tailN_pos {f : Nat → ByteArray} {d : Nat} : ∀ {j}, (∀ i, i < j + 1 → 0 < (f (d + i)).size) → 0 < (tailN f d (j + 1)).size
  | j, h => by
    have := h j (by omega)
    rw [tailN]
    split
    · rw [ByteArray.size_append]; omega
    · rw [ByteArray.size_append, ByteArray.size_append]; omega
theorem tail_join {f : Nat → ByteArray} {d : Nat} : ∀ j, (∀ i, i < j → 0 < (f (d + i)).size) → (tailN f d j).data.toList = Lib.join ((partL f d j).map (·.data.toList)) [46]
  | 0, _ => by simp [tailN, partL, Lib.join_nil]
  | j + 1, h => by
    have ih := tail_join j (fun i hi => h i (by omega))
    have e : (partL f d (j + 1)).map (·.data.toList) = (partL f d j).map (·.data.toList) ++ [(f (d + j)).data.toList] := by simp [partL, List.range_succ]
    rw [e, join_snoc, ← ih]
    cases j with
    | zero =>
      rw [if_pos (by simp [partL])]
      rw [tailN, if_pos (by simp [tailN, Lib.toList_data])]
      simp [tailN]
    | succ j =>
      have hp := tailN_pos (f := f) (d := d) (j := j) (fun i hi => h i (by omega))
      have hne : (tailN f d (j + 1)).toList.isEmpty = false := by
        rw [Lib.toList_data, List.isEmpty_eq_false_iff]
        intro e0
        rw [Lib.size_eq, e0] at hp
        exact absurd hp (by simp)
      rw [if_neg (by simp [partL, List.range_succ])]
      rw [tailN.eq_def f d (j + 1 + 1)]
      simp only
      rw [if_neg (by rw [hne]; decide)]
      simp
end Go.Proofs.YtaccgciopmclhaaGreatDoor

/- A row of texts that is owned, joined by the library. -/
namespace Go.Proofs.YtaccgciopmclhaaGreatDoor
open Go.RowKit

theorem builderX : Builder.Extra Tryz.prog Tryz.lays156_ren where
  sizeBuilder := by kernel_rfl
  liesBuilder := by kernel_rfl
  t5 := Tryz.underlying5
  a5 := Tryz.isAgg5
  z5 := Tryz.sizeOf5
  v5 := Tryz.zeroValue5
  infoByte := by kernel_rfl
  cellsByte := by kernel_rfl
  sizeByte := by kernel_rfl
  neB5 := by decide
/-- texts with sep between -/
def joinB (L : List ByteArray) (sep : ByteArray) : ByteArray := ⟨(Lib.join (L.map (·.data.toList)) sep.data.toList).toArray⟩
theorem join_own (L : List ByteArray) (v : Value) (B : Nat) (t : TypeId) (sep : ByteArray) (w : World) (h : w.ownsRow B t 1 v L.length (strCells L)) (hN : L.length ≤ 140737488355328) (hz : (joinB L sep).size ≤ 140737488355328) :
    Calls Tryz.prog 208 #[v, .string sep] w fun e w' => e = .returned (.string (joinB L sep)) ∧ Below w.heap.size w w' := by
  obtain ⟨p, c, rfl, hs⟩ := slice_of_own h
  by_cases h0 : L.length = 0
  · have hL : L = [] := List.length_eq_zero_iff.1 h0
    subst hL
    exact (Any.strings_Join_none Tryz.lays156 builderX p c sep w).mono fun _ _ ⟨h1, h2⟩ => ⟨h1, h2 ▸ Below.refl _ _⟩
  · obtain ⟨g, rfl, -, hg, hc⟩ := hs (by omega)
    have hcap : L.length ≤ c := by
      obtain ⟨_, ⟨e, h0'⟩ | ⟨g', cap, cur, e, _, _, hle, _⟩⟩ := h
      · omega
      · injection e with _ _ e3
        omega
    refine Any.strings_Join Tryz.lays156 builderX g 0 c L sep w (fun j x hj => ?_) hg hN hcap hz
    obtain ⟨hj1, rfl⟩ := List.getElem?_eq_some_iff.1 hj
    have e : atL L j = L[j] := by simp [atL, hj1]
    rw [Nat.zero_add, ← e]
    exact (hc j hj1).1
/-- a row of one text, built -/
theorem own_one (w : World) (t : TypeId) (x : ByteArray) : (w.alloc (.cells #[.string x] t)).ownsRow w.heap.size t 1 (.slice (some ⟨w.heap.size, 0, none⟩) 1 1) [x].length (strCells [x]) :=
  ⟨rfl, .inr ⟨w.heap.size, 1, #[.string x], rfl, Nat.le_refl _, heap_alloc_new w _, Nat.le_refl _, by decide, rfl, rfl⟩⟩
end Go.Proofs.YtaccgciopmclhaaGreatDoor

/- The walk of the program's SuffixOf. -/
namespace Go.Proofs.YtaccgciopmclhaaGreatDoor
open Go.RowKit

/-- labels from place d on, joined -/
theorem join_call (g d n c : Nat) (h : Nat → ByteArray) (w : World) (hg : g < w.heap.size) (hc : ∀ j, j < n → w.cell? ⟨g, d + j, none⟩ = some (.string (h (d + j)))) (hn : n ≤ 101) (hcap : n ≤ c) (hs : ∀ j, j < n → 0 < (h (d + j)).size ∧ (h (d + j)).size ≤ 100) :
    Calls Tryz.prog 208 #[.slice (some ⟨g, d, none⟩) n c, .string ⟨#[46]⟩] w fun e w' => e = .returned (.string (tailN h d n)) ∧ Below w.heap.size w w' := by
  have e := tail_join (f := h) (d := d) n (fun i hi => (hs i hi).1)
  have hz := tailN_size (f := h) (d := d) 100 n (fun i hi => (hs i hi).2)
  have k := Any.strings_Join Tryz.lays156 builderX g d c (partL h d n) ⟨#[46]⟩ w (fun j x hj => by obtain ⟨h1, rfl⟩ := partL_get hj; exact hc j h1) hg (by rw [partL_len]; omega) (by rw [partL_len]; exact hcap)
    (by
      have e2 : (⟨#[46]⟩ : ByteArray).data.toList = [46] := rfl
      rw [e2, ← e, ← Lib.size_eq]; omega)
  rw [partL_len] at k
  have e3 : (⟨(Lib.join ((partL h d n).map (·.data.toList)) (⟨#[46]⟩ : ByteArray).data.toList).toArray⟩ : ByteArray) = tailN h d n := by
    apply bytes_ext
    rw [e]
  rw [e3] at k
  exact k
theorem labelB_pos {t : ByteArray} (h : labelB t = true) : 0 < t.size := by
  by_cases hz : 0 < t.size
  · exact hz
  · rw [labelB_size (.inl (by omega))] at h; cases h
theorem host_labels {s : ByteArray} (h : hostB s = true) : 1 ≤ (splitB s 46).length ∧ (splitB s 46).length ≤ 101 ∧ ∀ i, i < (splitB s 46).length → 0 < (atL (splitB s 46) i).size ∧ (atL (splitB s 46) i).size ≤ 100 := by
  obtain ⟨m0, hm0⟩ := splitB_ne s 46
  have hz := hostB_pos h
  have hl := splitB_len s 46
  refine ⟨by omega, by omega, fun i hi => ?_⟩
  have e : atL (splitB s 46) i = (splitB s 46)[i] := by simp [atL, hi]
  rw [e]
  have ha : labelB (splitB s 46)[i] = true := by
    unfold hostB at h
    rw [Bool.and_eq_true, Bool.and_eq_true, List.all_eq_true] at h
    exact h.1.2 _ (List.getElem_mem hi)
  exact ⟨labelB_pos ha, Nat.le_trans (piece_le (List.getElem_mem hi)) hz.2⟩

set_option maxRecDepth 10000 in
set_option maxHeartbeats 4000000 in
theorem suffixOf_any (v : Value) (n B : Nat) (f : Nat → ByteArray) (s : ByteArray) (w : World) (hG : MaxI w) (hs : SliceS w B v n f) (l1 : n ≤ 1048576) (hf : ∀ i, i < n → (f i).size ≤ 1048576) (hz : s.size ≤ 1048576) :
    Calls Tryz.prog 201 #[v, .string s] w fun e w' => e = .returned (sufV (sufOf n f s).1 (sufOf n f s).2) ∧ Below w.heap.size w w' := by
  have HSl : Hid (SliceS w B v n f) := hs
  have HG : Hid (MaxI w) := hG
  have KR : Hid (∀ W, MaxI W → SliceS W B v n f → Calls Tryz.prog 134 #[v] W fun e w' => e = .returned (.bool (rulesB n f)) ∧ Below W.heap.size W w') := fun W a b => rulesRight_any v n B f W a b l1 hf
  have KH : Hid (∀ W, MaxI W → Calls Tryz.prog 139 #[.string s] W fun e w' => e = .returned (.bool (hostB s)) ∧ Below W.heap.size W w') := fun W a => hostRight_any s W a hz
  have HN : Hid (¬ (rulesB n f = true ∧ hostB s = true) → sufOf n f s = (⟨#[]⟩, ⟨#[]⟩)) := fun h => by rw [sufOf, if_neg h]
  have HY : Hid (rulesB n f = true → hostB s = true → sufOf n f s = (sufS n f s, sufD n f s)) := fun a b => by rw [sufOf, if_pos ⟨a, b⟩]
  have HU : Hid (∀ t : TypeId, U2 (w.alloc (.cells #[.string ⟨#[]⟩, .string ⟨#[]⟩] t)) w.heap.size) := fun t => ⟨by simp, by simp, by simp, fun o => by simp⟩
  have B0 : Hid (∀ t : TypeId, Below w.heap.size w (w.alloc (.cells #[.string ⟨#[]⟩, .string ⟨#[]⟩] t))) := fun t => (Below.refl _ _).alloc (Nat.le_refl _) _
  cases hrb : rulesB n f with
  | false =>
    have HZ : Hid (sufOf n f s = (⟨#[]⟩, ⟨#[]⟩)) := HN.out (fun a => by rw [hrb] at a; cases a.1)
    rw [hrb] at KR
    clear hrb hf hs hG HN HY
    generalize sufOf n f s = SO at *
    go_enter Tryz.func201, Tryz.ntmps201
    go_wp2_with fail
    refine (KR.out _ (HG.out.on (B0.out _)) (HSl.out.below (B0.out _))).mono ?_
    rintro e w1 ⟨rfl, hb1⟩
    obtain ⟨hz1, x0, x1, xf⟩ := (HU.out _).below hb1
    have B1' : Hid (Below w.heap.size w w1) := (B0.out _).trans (hb1.mono (by simp))
    clear hb1
    go_wp2
    exact bodyPost_ret (v := sufV ⟨#[]⟩ ⟨#[]⟩) (by simp [sufV, results, Tryz.results201, go_sem, x0, x1]) rfl ⟨by rw [HZ.out], Below.setCell (Below.setCell B1'.out (Nat.le_refl _) _) (Nat.le_refl _) _⟩
  | true =>
    cases hhb : hostB s with
    | false =>
      have HZ : Hid (sufOf n f s = (⟨#[]⟩, ⟨#[]⟩)) := HN.out (fun a => by rw [hhb] at a; cases a.2)
      rw [hrb] at KR
      rw [hhb] at KH
      clear hrb hhb hf hs hG HN HY
      generalize sufOf n f s = SO at *
      go_enter Tryz.func201, Tryz.ntmps201
      go_wp2_with fail
      refine (KR.out _ (HG.out.on (B0.out _)) (HSl.out.below (B0.out _))).mono ?_
      rintro e w1 ⟨rfl, hb1⟩
      have U1 := (HU.out _).below hb1
      have B1' : Hid (Below w.heap.size w w1) := (B0.out _).trans (hb1.mono (by simp))
      clear hb1
      go_wp2_with fail
      refine (KH.out _ (HG.out.on B1'.out)).mono ?_
      rintro e w2 ⟨rfl, hb2⟩
      obtain ⟨hz2, x0, x1, xf⟩ := U1.below hb2
      have B2' : Hid (Below w.heap.size w w2) := B1'.out.trans (hb2.mono B1'.out.size)
      clear hb2 U1
      go_wp2
      exact bodyPost_ret (v := sufV ⟨#[]⟩ ⟨#[]⟩) (by simp [sufV, results, Tryz.results201, go_sem, x0, x1]) rfl ⟨by rw [HZ.out], Below.setCell (Below.setCell B2'.out (Nat.le_refl _) _) (Nat.le_refl _) _⟩
    | true =>
      obtain ⟨hm1, hm2, hpc⟩ := host_labels hhb
      have HP : Hid (∀ i, i < (splitB s 46).length → 0 < (atL (splitB s 46) i).size ∧ (atL (splitB s 46) i).size ≤ 100) := hpc
      have eL : labelsL s = splitB s 46 := by rw [labelsL, if_pos hhb]
      have KL : Hid (∀ W, MaxI W → Calls Tryz.prog 206 #[.string s] W fun e w' => ∃ v, e = .returned v ∧ SliceS w' W.heap.size v (splitB s 46).length (atL (splitB s 46)) ∧ Below W.heap.size W w' ∧ ∃ p c, v = .slice p (splitB s 46).length c ∧ (splitB s 46).length ≤ c) := fun W a => by
        have := labelsOf_cap s W a hz
        rw [eL] at this; exact this
      have KB : Hid (∀ (v2 : Value) (B2 : Nat) (W : World), MaxI W → SliceS W B v n f → SliceS W B2 v2 (splitB s 46).length (atL (splitB s 46)) → Calls Tryz.prog 207 #[v, v2] W fun e w' => e = .returned (.int .i64 (beginN n f (splitB s 46).length (atL (splitB s 46)) : Nat)) ∧ Below W.heap.size W w') :=
        fun v2 B2 W a b c => begin_any v v2 n _ B B2 f _ W a b c l1 (by omega) hm1 hf
      obtain ⟨hbc, hble⟩ := beginN_count n f (atL (splitB s 46)) hm1
      have hcle := countN_le n f (atL (splitB s 46)) hm1
      have EC : countN n f (splitB s 46).length (atL (splitB s 46)) = sufC n f s := rfl
      have ES : Hid (sufS n f s = tailN (atL (splitB s 46)) ((splitB s 46).length - sufC n f s) (sufC n f s)) := rfl
      have ED : Hid (sufD n f s = if sufC n f s < (splitB s 46).length then tailN (atL (splitB s 46)) ((splitB s 46).length - (sufC n f s + 1)) (sufC n f s + 1) else ⟨#[]⟩) := rfl
      have HZ : Hid (sufOf n f s = (sufS n f s, sufD n f s)) := HY.out hrb hhb
      rw [EC] at hbc hcle
      rw [hrb] at KR
      rw [hhb] at KH
      clear hrb hhb hf hs hG HN HY hpc eL EC
      generalize sufOf n f s = SO at *
      generalize sufS n f s = sS at *
      generalize sufD n f s = sD at *
      generalize sufC n f s = c at *
      generalize beginN n f (splitB s 46).length (atL (splitB s 46)) = b at *
      generalize (splitB s 46).length = m at *
      generalize atL (splitB s 46) = h at *
      obtain rfl : c = m - b := by omega
      have ES1 : Hid (sS = tailN h b (m - b)) := by show _ = _; rw [ES.out, show m - (m - b) = b by omega]
      clear hbc hcle ES
      go_enter Tryz.func201, Tryz.ntmps201
      go_wp2_with fail
      refine (KR.out _ (HG.out.on (B0.out _)) (HSl.out.below (B0.out _))).mono ?_
      rintro e w1 ⟨rfl, hb1⟩
      have U1 : Hid (U2 w1 w.heap.size) := (HU.out _).below hb1
      have B1' : Hid (Below w.heap.size w w1) := (B0.out _).trans (hb1.mono (by simp))
      clear hb1
      go_wp2_with fail
      refine (KH.out _ (HG.out.on B1'.out)).mono ?_
      rintro e w2 ⟨rfl, hb2⟩
      have U2' : Hid (U2 w2 w.heap.size) := U1.out.below hb2
      have B2' : Hid (Below w.heap.size w w2) := B1'.out.trans (hb2.mono B1'.out.size)
      clear hb2 U1
      go_wp2_with fail
      refine (KL.out _ (HG.out.on B2'.out)).mono ?_
      rintro e w3 ⟨vL, rfl, hsl, hb3, pL, cL, rfl, hcL⟩
      have U3' : Hid (U2 w3 w.heap.size) := U2'.out.below hb3
      have B3' : Hid (Below w.heap.size w w3) := B2'.out.trans (hb3.mono B2'.out.size)
      have SL : Hid (SliceS w3 w2.heap.size (.slice pL m cL) m h) := hsl
      clear hb3 hsl U2'
      go_wp2_with fail
      refine (KB.out _ _ _ (HG.out.on B3'.out) (HSl.out.below B3'.out) SL.out).mono ?_
      rintro e w4 ⟨rfl, hb4⟩
      have U4' : Hid (U2 w4 w.heap.size) := U3'.out.below hb4
      have B4' : Hid (Below w.heap.size w w4) := B3'.out.trans (hb4.mono B3'.out.size)
      have SL4 := SL.out.below hb4
      clear hb4 U3' SL KL KB KR KH
      obtain ⟨p', c', e', hg'⟩ := SL4
      obtain ⟨g, rfl, hgB, hgw, hgc⟩ := hg' (by omega)
      obtain ⟨rfl, rfl⟩ : pL = some ⟨g, 0, none⟩ ∧ cL = c' := by injection e' with a b c; exact ⟨a, c⟩
      have HC : Hid (∀ j, j < m → w4.cell? ⟨g, j, none⟩ = some (.string (h j)) ∧ w4.frozen? ⟨g, j, none⟩ = false) := hgc
      clear e' hg' hgc hgB
      have KJ : Hid (∀ (d : Nat) (W : World), d ≤ m → Below w4.heap.size w4 W → Calls Tryz.prog 208 #[.slice (some ⟨g, d, none⟩) (m - d) (cL - d), .string ⟨#[46]⟩] W fun e w' => e = .returned (.string (tailN h d (m - d))) ∧ Below W.heap.size W w') :=
        fun d W hd hb => join_call g d (m - d) (cL - d) h W (Nat.lt_of_lt_of_le hgw hb.size) (fun j hj => by rw [(bcell hb).1 _ _ hgw]; exact (HC.out (d + j) (by omega)).1) (by omega) (by omega) (fun j hj => HP.out (d + j) (by omega))
      have KX : Hid (cL = b → Calls Tryz.prog 208 #[.slice (some ⟨g, 0, none⟩) (m - b) 0, .string ⟨#[46]⟩] w4 fun e w' => e = .returned (.string (tailN h b (m - b))) ∧ Below w4.heap.size w4 w') := fun e => by
        rw [show m - b = 0 by omega]
        exact (Any.strings_Join_none Tryz.lays156 builderX _ _ _ w4).mono fun _ _ ⟨h1, h2⟩ => ⟨h1, h2 ▸ Below.refl _ _⟩
      have b0 : (0 : Int) ≤ b := by omega
      have b1 : (b : Int) ≤ (m : Int) := by omega
      have b2 : (m : Int) ≤ (cL : Int) := by omega
      rw [← ES1.out] at KX
      have KJb : Hid (∀ W : World, Below w4.heap.size w4 W → Calls Tryz.prog 208 #[.slice (some ⟨g, b, none⟩) (m - b) (cL - b), .string ⟨#[46]⟩] W fun e w' => e = .returned (.string sS) ∧ Below W.heap.size W w') := fun W a => by
        have := KJ.out b W hble a
        rw [← ES1.out] at this; exact this
      have KD : Hid (0 < b → ∀ W : World, Below w4.heap.size w4 W → Calls Tryz.prog 208 #[.slice (some ⟨g, b - 1, none⟩) (m - (b - 1)) (cL - (b - 1)), .string ⟨#[46]⟩] W fun e w' => e = .returned (.string sD) ∧ Below W.heap.size W w') := fun hb W a => by
        have := KJ.out (b - 1) W (by omega) a
        rw [ED.out, if_pos (by omega), show m - (m - b + 1) = b - 1 by omega, show m - b + 1 = m - (b - 1) by omega]; exact this
      have KE : Hid (b = 0 → sD = ⟨#[]⟩) := fun hb => by rw [ED.out, if_neg (by omega)]
      clear KJ ES1 ED HP HC
      by_cases hb : b = 0
      · subst hb
        have hcb : ¬ cL = 0 := by omega
        have KJ0 : Hid (Calls Tryz.prog 208 #[.slice (some ⟨g, 0, none⟩) m cL, .string ⟨#[46]⟩] w4 fun e w' => e = .returned (.string sS) ∧ Below w4.heap.size w4 w') := KJb.out w4 (Below.refl _ _)
        have HD : Hid (sD = ⟨#[]⟩) := KE.out rfl
        go_wp2_with fail
        refine KJ0.out.mono ?_
        rintro e w5 ⟨rfl, hb5⟩
        obtain ⟨hz5, x0, x1, xf⟩ := U4'.out.below hb5
        have B5' : Hid (Below w.heap.size w w5) := B4'.out.trans (hb5.mono B4'.out.size)
        clear hb5
        go_wp2
        have y0 : (((w5.setCell ⟨w.heap.size, 0, none⟩ (.string sS)).setCell ⟨w.heap.size, 1, none⟩ (.string ⟨#[]⟩)).alloc (.cells #[.string sS, .string ⟨#[]⟩] 203)).cell? ⟨w.heap.size, 0, none⟩ = some (.string sS) := by
          rw [World.cell?_alloc_lt _ _ _ (by simpa [World.setCell] using hz5), World.cell?_setCell_other _ _ _ _ (by simp)]
          exact World.cell?_setCell_same _ _ _ x0
        have y1 : (((w5.setCell ⟨w.heap.size, 0, none⟩ (.string sS)).setCell ⟨w.heap.size, 1, none⟩ (.string ⟨#[]⟩)).alloc (.cells #[.string sS, .string ⟨#[]⟩] 203)).cell? ⟨w.heap.size, 1, none⟩ = some (.string ⟨#[]⟩) := by
          rw [World.cell?_alloc_lt _ _ _ (by simpa [World.setCell] using hz5)]
          exact World.cell?_setCell_same _ _ _ ((World.cell?_setCell_other _ _ _ _ (by simp)).trans x1)
        have yb : Below w.heap.size w (((w5.setCell ⟨w.heap.size, 0, none⟩ (.string sS)).setCell ⟨w.heap.size, 1, none⟩ (.string ⟨#[]⟩)).alloc (.cells #[.string sS, .string ⟨#[]⟩] 203)) := ((B5'.out.setCell (Nat.le_refl _) _).setCell (Nat.le_refl _) _).alloc (by simp [World.setCell]; omega) _
        generalize ((w5.setCell ⟨w.heap.size, 0, none⟩ (.string sS)).setCell ⟨w.heap.size, 1, none⟩ (.string ⟨#[]⟩)).alloc (.cells #[.string sS, .string ⟨#[]⟩] 203) = W at *
        exact bodyPost_ret (v := sufV sS ⟨#[]⟩) (by simp [sufV, results, Tryz.results201, go_sem, y0, y1]) rfl ⟨by rw [HZ.out, HD.out], yb⟩
      obtain ⟨d, rfl⟩ : ∃ d, b = d + 1 := ⟨b - 1, by omega⟩
      have KD2 : Hid (∀ W : World, Below w4.heap.size w4 W → Calls Tryz.prog 208 #[.slice (some ⟨g, d, none⟩) (m - d) (cL - d), .string ⟨#[46]⟩] W fun e w' => e = .returned (.string sD) ∧ Below W.heap.size W w') := KD.out (by omega)
      have q : decide ((0 : Int) < (d : Int) + 1) = true := by rw [decide_eq_true_iff]; omega
      have hcd : ¬ cL = d := by omega
      have hd0 : (0 : Int) ≤ (d : Int) := by omega
      have hd1 : (d : Int) ≤ (m : Int) := by omega
      have KD3 : Hid (cL = d + 1 → ∀ W : World, Below w4.heap.size w4 W → Calls Tryz.prog 208 #[.slice (some ⟨g, d, none⟩) (m - d) 1, .string ⟨#[46]⟩] W fun e w' => e = .returned (.string sD) ∧ Below W.heap.size W w') := fun e W a => by
        have := KD2.out W a
        rw [show cL - d = 1 by omega] at this; exact this
      clear KD KE hb
      by_cases hcb : cL = d + 1
      all_goals
        go_wp2_with fail
        first | refine (KX.out hcb).mono ?_ | refine (KJb.out w4 (Below.refl _ _)).mono ?_
        rintro e w5 ⟨rfl, hb5⟩
        have U5' : Hid (U2 w5 w.heap.size) := U4'.out.below hb5
        have B5' : Hid (Below w.heap.size w w5) := B4'.out.trans (hb5.mono B4'.out.size)
        have B45 : Hid (Below w4.heap.size w4 w5) := hb5
        have HA6 : Hid (Below w5.heap.size w5 (w5.alloc (.cells #[.string sS, .string ⟨#[]⟩] 203))) := (Below.refl _ _).alloc (Nat.le_refl _) _
        clear hb5
        go_wp2_with fail
        first | refine (KD3.out hcb _ (B45.out.trans (HA6.out.mono B45.out.size))).mono ?_ | refine (KD2.out _ (B45.out.trans (HA6.out.mono B45.out.size))).mono ?_
        rintro e w6 ⟨rfl, hb6⟩
        have U6 := (U5'.out.below HA6.out).below hb6
        have z0 : w6.cell? ⟨w5.heap.size, 0, none⟩ = some (.string sS) := by rw [(bcell hb6).1 _ _ (by simp)]; simp
        have z1 : w6.cell? ⟨w5.heap.size, 1, none⟩ = some (.string ⟨#[]⟩) := by rw [(bcell hb6).1 _ _ (by simp)]; simp
        have zf : ∀ o, w6.frozen? ⟨w5.heap.size, o, none⟩ = false := fun o => by rw [(bcell hb6).2 _ _ (by simp)]; simp
        have hz6 : w5.heap.size < w6.heap.size := by have := hb6.size; simp at this; omega
        have hne : ¬ w5.heap.size = w.heap.size := by have := U5'.out.1; omega
        have B6' : Hid (Below w.heap.size w w6) := (B5'.out.trans (HA6.out.mono B5'.out.size)).trans (hb6.mono (by have := B5'.out.size; simp; omega))
        obtain ⟨hzw, x0, x1, xf⟩ := U6
        clear hb6
        go_wp2
        have y0 : (((w6.setCell ⟨w5.heap.size, 1, none⟩ (.string sD)).setCell ⟨w.heap.size, 0, none⟩ (.string sS)).setCell ⟨w.heap.size, 1, none⟩ (.string sD)).cell? ⟨w.heap.size, 0, none⟩ = some (.string sS) := by
          rw [World.cell?_setCell_other _ _ _ _ (by simp)]
          exact World.cell?_setCell_same _ _ _ ((World.cell?_setCell_other _ _ _ _ (by simp)).trans x0)
        have y1 : (((w6.setCell ⟨w5.heap.size, 1, none⟩ (.string sD)).setCell ⟨w.heap.size, 0, none⟩ (.string sS)).setCell ⟨w.heap.size, 1, none⟩ (.string sD)).cell? ⟨w.heap.size, 1, none⟩ = some (.string sD) :=
          World.cell?_setCell_same _ _ _ ((World.cell?_setCell_other _ _ _ _ (by simp)).trans ((World.cell?_setCell_other _ _ _ _ (by simp)).trans x1))
        have yb : Below w.heap.size w (((w6.setCell ⟨w5.heap.size, 1, none⟩ (.string sD)).setCell ⟨w.heap.size, 0, none⟩ (.string sS)).setCell ⟨w.heap.size, 1, none⟩ (.string sD)) := ((B6'.out.setCell (by have := U5'.out.1; simp; omega) _).setCell (Nat.le_refl _) _).setCell (Nat.le_refl _) _
        generalize ((w6.setCell ⟨w5.heap.size, 1, none⟩ (.string sD)).setCell ⟨w.heap.size, 0, none⟩ (.string sS)).setCell ⟨w.heap.size, 1, none⟩ (.string sD) = W at *
        exact bodyPost_ret (v := sufV sS sD) (by simp [sufV, results, Tryz.results201, go_sem, y0, y1]) rfl ⟨by rw [HZ.out], yb⟩
end Go.Proofs.YtaccgciopmclhaaGreatDoor

/- The walk of the program's DomainRight. -/
namespace Go.Proofs.YtaccgciopmclhaaGreatDoor
open Go.RowKit

theorem domR_suf (n : Nat) (f : Nat → ByteArray) (s : ByteArray) : domR n f s = (!s.toList.isEmpty && ((sufOf n f s).2.toList == s.toList)) := by
  have e0 : s.toList.isEmpty = true → s.size = 0 := fun h => by
    rw [Lib.toList_data, List.isEmpty_iff] at h
    rw [Lib.size_eq, h]; rfl
  unfold domR domB sufOf
  cases hr : rulesB n f with
  | false =>
    cases he : s.toList.isEmpty with
    | true => rfl
    | false =>
      simp only [Bool.false_and, Bool.not_false, Bool.true_and, Bool.false_eq_true, false_and, if_false]
      symm
      rw [beq_eq_false_iff_ne]
      intro h
      rw [← h] at he
      rw [Lib.toList_data] at he; cases he
  | true =>
    cases hh : hostB s with
    | false =>
      cases he : s.toList.isEmpty with
      | true => rfl
      | false =>
        simp only [Bool.false_and, Bool.and_false, Bool.not_false, Bool.true_and, Bool.false_eq_true, and_false, if_false]
        symm
        rw [beq_eq_false_iff_ne]
        intro h
        rw [← h] at he
        rw [Lib.toList_data] at he; cases he
    | true =>
      have hp := (hostB_pos hh).1
      cases he : s.toList.isEmpty with
      | true => have := e0 he; omega
      | false => simp

set_option maxRecDepth 10000 in
set_option maxHeartbeats 1000000 in
theorem domainRight_any (v : Value) (n B : Nat) (f : Nat → ByteArray) (s : ByteArray) (w : World) (hG : MaxI w) (hs : SliceS w B v n f) (l1 : n ≤ 1048576) (hf : ∀ i, i < n → (f i).size ≤ 1048576) (hz : s.size ≤ 1048576) :
    Calls Tryz.prog 189 #[v, .string s] w fun e w' => e = .returned (.bool (domR n f s)) ∧ Below w.heap.size w w' := by
  have KS : Hid (Calls Tryz.prog 201 #[v, .string s] w fun e w' => e = .returned (.agg #[.string (sufOf n f s).1, .string (sufOf n f s).2]) ∧ Below w.heap.size w w') := suffixOf_any v n B f s w hG hs l1 hf hz
  have HD : Hid (domR n f s = (!s.toList.isEmpty && ((sufOf n f s).2.toList == s.toList))) := domR_suf n f s
  have hfd : ∀ (a b : ByteArray) (W : World), Sem.run Tryz.prog (Instr.field 203 (.agg #[.string a, .string b]) 1) W = .ok (.string b) W := field_dom
  clear hf hs hG
  generalize domR n f s = d at *
  generalize (sufOf n f s).1 = sA at *
  generalize (sufOf n f s).2 = sB at *
  cases he : s.toList.isEmpty with
  | true =>
    have HZ : Hid (d = false) := by show _ = _; rw [HD.out, he]; rfl
    go_enter Tryz.func189, Tryz.ntmps189
    go_wp2
    go_ret
    exact ⟨ret_b (by rw [HZ.out]), Below.refl _ _⟩
  | false =>
    have HZ : Hid (d = (sB.toList == s.toList)) := by show _ = _; rw [HD.out, he]; rfl
    clear HD
    go_enter Tryz.func189, Tryz.ntmps189
    go_wp2_with fail
    refine KS.out.mono ?_
    rintro e w1 ⟨rfl, hb1⟩
    go_wp2
    go_ret
    exact ⟨ret_b (by rw [HZ.out]), hb1⟩
end Go.Proofs.YtaccgciopmclhaaGreatDoor
