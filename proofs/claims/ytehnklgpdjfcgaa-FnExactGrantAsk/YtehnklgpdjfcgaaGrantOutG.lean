/- The laws' eqGrantOut, markGrantOut, heldGrantOut; an answer in its box. -/
import Derived.Test.YtehnklgpdjfcgaaBoxG
import Derived.Test.YtehnklgpdjfcgaaMarkGrant
import Derived.Deep.DeepCutAuto
namespace Go.Proofs.Ytehnklgpdjfcgaa
open Go.RowKit

set_option maxRecDepth 10000 in
set_option maxHeartbeats 4000000 in
theorem eqGO_any (a b : Value) (Z : GO) (B B' : Nat) (w : World) (ha : SliceG w B a Z.ar) (hb : SliceG w B' b Z.ar) (hn : Z.ar.length ≤ 1048576) :
    Calls Try.prog 19 #[.agg #[a, .bool Z.us, .int .i64 Z.co], .agg #[b, .bool Z.us, .int .i64 Z.co]] w fun e w' => e = .returned (.bool true) ∧ Below w.heap.size w w' := by
  have KE : Hid (∀ W, Below w.heap.size w W → Calls Try.prog 12 #[a, b] W fun e w' => e = .returned (.bool true) ∧ Below W.heap.size W w') := fun W h => eqGrantS_any a b Z.ar B B' W (ha.below h) (hb.below h) hn
  obtain ⟨p, ca, hva⟩ : ∃ p ca, a = .slice p Z.ar.length ca := by obtain ⟨⟨p, cap, e, -⟩, -⟩ := ha; exact ⟨p, cap, e⟩
  obtain ⟨q, cb, hvb⟩ : ∃ q cb, b = .slice q Z.ar.length cb := by obtain ⟨⟨p, cap, e, -⟩, -⟩ := hb; exact ⟨p, cap, e⟩
  clear ha hb
  generalize Z.ar.length = m at *
  obtain ⟨za, zv, zc⟩ := Z
  dsimp only at *
  subst hva hvb
  obtain ⟨W0, hW⟩ : ∃ W0, W0 = (w.alloc (.cells #[.slice p m ca, .bool zv, .int .i64 zc] 33)).alloc (.cells #[.slice q m cb, .bool zv, .int .i64 zc] 33) := ⟨_, rfl⟩
  have hW0 : Hid (W0 = (w.alloc (.cells #[.slice p m ca, .bool zv, .int .i64 zc] 33)).alloc (.cells #[.slice q m cb, .bool zv, .int .i64 zc] 33)) := hW
  have B0 : Hid (Below w.heap.size w W0) := by
    show Below _ _ _
    rw [hW]; exact ((Below.refl _ _).alloc (Nat.le_refl _) _).alloc (by simp) _
  have c0 : W0.cell? ⟨w.heap.size, 0, none⟩ = some (.slice p m ca) := by rw [hW]; simp
  have c1 : W0.cell? ⟨w.heap.size, 1, none⟩ = some (.bool zv) := by rw [hW]; simp
  have c2 : W0.cell? ⟨w.heap.size, 2, none⟩ = some (.int .i64 zc) := by rw [hW]; simp
  have d0 : W0.cell? ⟨w.heap.size + 1, 0, none⟩ = some (.slice q m cb) := by rw [hW]; exact (World.cell?_alloc_at _ _ _ _ (by simp)).trans rfl
  have d1 : W0.cell? ⟨w.heap.size + 1, 1, none⟩ = some (.bool zv) := by rw [hW]; exact (World.cell?_alloc_at _ _ _ _ (by simp)).trans rfl
  have d2 : W0.cell? ⟨w.heap.size + 1, 2, none⟩ = some (.int .i64 zc) := by rw [hW]; exact (World.cell?_alloc_at _ _ _ _ (by simp)).trans rfl
  have z1 : w.heap.size + 1 < W0.heap.size := by rw [hW]; simp
  clear hW
  go_enter Try.func19, Try.ntmps19
  go_upto_region 1 with fail
  rw [← hW0.out]
  clear hW0
  generalize hbb : w.heap.size = b at *
  have z0 : b < W0.heap.size := by omega
  go_wp2_with fail
  refine (KE.out _ B0.out).mono ?_
  rintro e w1 ⟨rfl, hb1⟩
  have e1 : w1.cell? ⟨b, 1, none⟩ = some (.bool zv) := ((bcell hb1).1 _ _ z0).trans c1
  have e2 : w1.cell? ⟨b, 2, none⟩ = some (.int .i64 zc) := ((bcell hb1).1 _ _ z0).trans c2
  have f1 : w1.cell? ⟨b + 1, 1, none⟩ = some (.bool zv) := ((bcell hb1).1 _ _ z1).trans d1
  have f2 : w1.cell? ⟨b + 1, 2, none⟩ = some (.int .i64 zc) := ((bcell hb1).1 _ _ z1).trans d2
  have B1 : Hid (Below b w w1) := B0.out.trans (hb1.mono (by omega))
  clear hb1
  go_wp2
  go_ret
  exact ⟨rfl, by rw [hbb]; exact B1.out⟩
set_option maxRecDepth 10000 in
set_option maxHeartbeats 4000000 in
theorem markGO_call (a : Value) (zv : Bool) (zc : Int) (L : List Gr) (B : Nat) (w : World) (ha : SliceG w B a L) (hB : B ≤ w.heap.size) (hn : L.length ≤ 1048576) :
    Calls Try.prog 20 #[.agg #[a, .bool zv, .int .i64 zc], .int .i64 1] w fun e w' => e = .returned (.int .i64 ((1 + L.length * 3 : Nat) : Int)) ∧ SliceR w' B 3 a L.length (markGrC 1) ∧ ∃ G, B ≤ G ∧ (0 < L.length → a.ownBlock = some G) ∧ (¬ 0 < L.length → w.heap.size ≤ G) ∧ w.grownBy w' (some G) := by
  obtain ⟨p, ca, hva⟩ : ∃ p ca, a = .slice p L.length ca := by obtain ⟨⟨p, cap, e, -⟩, -⟩ := ha; exact ⟨p, cap, e⟩
  have KM : Hid (∀ W, Below w.heap.size w W → Calls Try.prog 13 #[a, .int .i64 1] W fun e w' => e = .returned (.int .i64 ((1 + L.length * 3 : Nat) : Int)) ∧ SliceR w' B 3 a L.length (markGrC 1) ∧ ∃ G, B ≤ G ∧ (0 < L.length → a.ownBlock = some G) ∧ (¬ 0 < L.length → W.heap.size ≤ G) ∧ W.grownBy w' (some G)) := fun W hb => markG_call a L B W (ha.below hb) (Nat.le_trans hB hb.size) hn
  clear ha
  have hq : Hid (((1 + L.length * 3 : Nat) : Int) = ((1 + L.length * 3 : Nat) : Int)) := rfl
  generalize hm : ((1 + L.length * 3 : Nat) : Int) = mq at *
  subst hva
  go_enter Try.func20, Try.ntmps20
  go_wp2_with fail
  refine (KM.out _ ((Below.refl _ _).alloc (Nat.le_refl _) _)).mono ?_
  rintro e w1 ⟨rfl, hr, G, h1, h2, h3, hg⟩
  have HF : Hid (SliceR w1 B 3 (.slice p L.length ca) L.length (markGrC 1) ∧ ∃ G, B ≤ G ∧ (0 < L.length → (Value.slice p L.length ca).ownBlock = some G) ∧ (¬ 0 < L.length → w.heap.size ≤ G) ∧ w.grownBy w1 (some G)) := ⟨hr, G, h1, h2, fun h => Nat.le_trans (by simp) (h3 h), (World.grownBy_alloc w _ (some G)).andThen hg (fun j hj => .inr hj)⟩
  clear hr h1 h2 h3 hg
  go_wp2
  go_ret
  exact ⟨rfl, HF.out⟩
set_option maxRecDepth 10000 in
set_option maxHeartbeats 4000000 in
theorem heldGO_any (a : Value) (zv : Bool) (zc : Int) (n B : Nat) (w : World) (ha : SliceR w B 3 a n (markGrC 1)) (hn : n ≤ 1048576) :
    Calls Try.prog 21 #[.agg #[a, .bool zv, .int .i64 zc], .int .i64 1] w fun e w' => e = .returned (.int .i64 ((1 + n * 3 : Nat) : Int)) ∧ Below w.heap.size w w' := by
  obtain ⟨p, ca, hva⟩ : ∃ p ca, a = .slice p n ca := by obtain ⟨p, cap, e, -⟩ := ha; exact ⟨p, cap, e⟩
  have KM : Hid (∀ W, Below w.heap.size w W → Calls Try.prog 14 #[a, .int .i64 1] W fun e w' => e = .returned (.int .i64 ((1 + n * 3 : Nat) : Int)) ∧ Below W.heap.size W w') := fun W hb => heldGrantS_any a n B 1 W (SliceR.below ha hb) hn (by decide) (by decide)
  clear ha
  have hm1 : decide ((((1 + n * 3 : Nat) : Int)) < 0) = false := by rw [decide_eq_false_iff_not]; omega
  generalize hm : ((1 + n * 3 : Nat) : Int) = mq at *
  subst hva
  go_enter Try.func21, Try.ntmps21
  go_wp2_with fail
  refine (KM.out _ ((Below.refl _ _).alloc (Nat.le_refl _) _)).mono ?_
  rintro e w1 ⟨rfl, hb⟩
  have HF : Hid (Below w.heap.size w w1) := ((Below.refl _ _).alloc (Nat.le_refl _) _).trans (hb.mono (by simp))
  clear hb
  go_wp2
  go_ret
  exact ⟨rfl, HF.out⟩
/-- an answer lies in its box -/
def InBoxG (W : World) (b : Nat) (s : Value) (Z : GO) : Prop := W.cell? ⟨b, 0, none⟩ = some s ∧ W.cell? ⟨b, 1, none⟩ = some (.bool Z.us) ∧ W.cell? ⟨b, 2, none⟩ = some (.int .i64 Z.co) ∧ b < W.heap.size
theorem InBoxG.below {W W' : World} {b : Nat} {s : Value} {Z : GO} (h : InBoxG W b s Z) (hb : Below W.heap.size W W') : InBoxG W' b s Z :=
  ⟨((bcell hb).1 _ _ h.2.2.2).trans h.1, ((bcell hb).1 _ _ h.2.2.2).trans h.2.1, ((bcell hb).1 _ _ h.2.2.2).trans h.2.2.1, Nat.lt_of_lt_of_le h.2.2.2 hb.size⟩
theorem InBoxG.grown {W W' : World} {b G : Nat} {s : Value} {Z : GO} (h : InBoxG W b s Z) (hg : W.grownBy W' (some G)) (hne : b ≠ G) : InBoxG W' b s Z := by
  have hb : W'.heap[b]? = W.heap[b]? := hg.block b h.2.2.2 (fun e => hne (Option.some.inj e))
  exact ⟨(World.cell?_of_block (a := ⟨b, 0, none⟩) hb).trans h.1, (World.cell?_of_block (a := ⟨b, 1, none⟩) hb).trans h.2.1, (World.cell?_of_block (a := ⟨b, 2, none⟩) hb).trans h.2.2.1, Nat.lt_of_lt_of_le h.2.2.2 hg.size⟩
theorem inBoxG_made (W : World) (s : Value) (Z : GO) (t : TypeId) : InBoxG (W.alloc (.cells #[s, .bool Z.us, .int .i64 Z.co] t)) W.heap.size s Z := ⟨by simp, by simp, by simp, by simp⟩
end Go.Proofs.Ytehnklgpdjfcgaa
