/- 4 of this claim's texts, one behind the other. -/
import Derived.Test.YtfoekelhcmlagaaDoorPart3
import Derived.Test.YtfoekelhcmlagaaDoorPart4
import Derived.Deep.AppendLies
import Derived.Deep.RegionHeld3
import Derived.Deep.DeepCutAuto
import Derived.Below
import Derived.Lib.SlicesCompact
import Derived.Test.YtfoekelhcmlagaaDoorPart2
/- The walk of the program's add. Written by impladd.py. -/
namespace Go.Proofs.YtfoekelhcmlagaaDoor
open Go.RowKit Go.Maps

theorem after_drew5 {w w' : World} (h : Below w.drew.heap.size w.drew w') : Below w.heap.size w w' := (Below.drew (Below.refl _ _)).trans h
/-- a set may come into a book -/
def addB (n : Nat) (f : Nat → ByteArray) (pl : ByteArray → Option Nat) (k : Nat) (x : SetL) : Bool := !(decide (k = 6)) && domsB n f x && newB pl k (allD x)
theorem domsB_sizes {n : Nat} {f : Nat → ByteArray} {x : SetL} (h : domsB n f x = true) : 0 < x.2.length ∧ x.2.length ≤ 4 ∧ x.1.size ≤ 100 ∧ ∀ i, i < x.2.length → (atL x.2 i).size ≤ 100 := by
  obtain ⟨h0, h1, h2, h3⟩ := domsB_parts h
  have hd : ∀ s, domR n f s = true → s.size ≤ 100 := fun s hs => by
    unfold domR at hs
    rw [Bool.and_eq_true] at hs
    exact (domB_size hs.2).2
  refine ⟨h1, h2, hd _ h0, fun i hi => ?_⟩
  have := h3 i hi
  unfold okN at this
  rw [Bool.and_eq_true] at this
  exact hd _ this.1
theorem infoSet6 : (Tryd.prog.info? 47).map (fun i => (i.zero, i.size, i.bytes)) = some (some (.agg #[.string ⟨#[]⟩, .slice none 0 0]), 2, 40) := by kernel_rfl
set_option maxRecDepth 10000 in
set_option maxHeartbeats 8000000 in
theorem add_any (B0 b bm N n B B' : Nat) (rv sv u : Value) (f : Nat → ByteArray) (T : List (SetL × Value)) (pl : ByteArray → Option Nat) (x : SetL) (w : World) (hG : MaxI w) (hr : SliceS w B rv n f) (l1 : n ≤ 1048576) (hf : ∀ i, i < n → (f i).size ≤ 1048576)
    (hs : SliceS w B' u x.2.length (atL x.2)) (hn : x.2.length ≤ 1048576) (hz1 : x.1.size ≤ 1048576) (hz : ∀ i, i < x.2.length → (atL x.2 i).size ≤ 1048576)
    (hB : BookR w B0 b bm rv T sv) (hm : MapIs w bm N pl) (hT : T.length ≤ 6) (hN : N ≤ 900) (e1 : ErrAt w 2) (e2 : ErrAt w 3) (e3 : ErrAt w 5) :
    Calls Tryd.prog 148 #[.pointer (some ⟨b, 0, none⟩), .agg #[.string x.1, u]] w fun e w' =>
      ((addB n f pl T.length x = true ∧ e = .returned .nilIface ∧ (∃ u' sv', BookR w' B0 b bm rv (T ++ [(x, u')]) sv') ∧ MapIs w' bm (N + 5) (plTo pl T.length (allD x) (allD x).length)) ∨ (addB n f pl T.length x = false ∧ (∃ ty v, e = .returned (.iface ty v)) ∧ BookR w' B0 b bm rv T sv ∧ MapIs w' bm (N + 5) pl)) ∧ Below B0 w w' := by
  obtain ⟨sp, sc, rfl⟩ : ∃ p c, sv = .slice p T.length c := by
    obtain ⟨_, ⟨rfl, h0⟩ | ⟨g, cap, cur, rfl, _⟩⟩ := hB.own
    · exact ⟨none, 0, by rw [h0]⟩
    · exact ⟨_, _, rfl⟩
  have HSx : Hid (SliceS w B' u x.2.length (atL x.2)) := hs
  obtain ⟨up, uc, rfl, -⟩ := hs
  have HBk : Hid (BookR w B0 b bm rv T (.slice sp T.length sc)) := hB
  have HMp : Hid (MapIs w bm N pl) := hm
  have HAdd : Hid (addB n f pl T.length x = (!(decide (T.length = 6)) && domsB n f x && newB pl T.length (allD x))) := rfl
  have KD : Hid (∀ W, Below w.heap.size w W → Calls Tryd.prog 182 #[rv, .agg #[.string x.1, .slice up x.2.length uc]] W fun e w' => e = .returned (.bool (domsB n f x)) ∧ Below W.heap.size W w') := fun W hb => domainsRight_any rv n B f x _ B' W (hG.on hb) (hr.below hb) l1 hf (HSx.out.below hb) hn hz1 hz
  have HSz : Hid (domsB n f x = true → 0 < x.2.length ∧ x.2.length ≤ 4 ∧ x.1.size ≤ 100 ∧ ∀ i, i < x.2.length → (atL x.2 i).size ≤ 100) := domsB_sizes
  obtain ⟨W0, hW⟩ : ∃ W0, W0 = w.alloc (.cells #[.string x.1, .slice up x.2.length uc] 47) := ⟨_, rfl⟩
  have hW0 : Hid (W0 = w.alloc (.cells #[.string x.1, .slice up x.2.length uc] 47)) := hW
  have HB0 : Hid (Below w.heap.size w W0) := by show Below _ _ _; rw [hW]; exact (Below.refl _ _).alloc (Nat.le_refl _) _
  have z0 : w.heap.size < W0.heap.size := by rw [hW]; simp
  have a0 : W0.cell? ⟨w.heap.size, 0, none⟩ = some (.string x.1) := by rw [hW]; simp
  have a1 : W0.cell? ⟨w.heap.size, 1, none⟩ = some (.slice up x.2.length uc) := by rw [hW]; simp
  have b0 : W0.cell? ⟨b, 0, none⟩ = some rv := (HBk.out.below HB0.out).c0
  have b1 : W0.cell? ⟨b, 1, none⟩ = some (.slice sp T.length sc) := (HBk.out.below HB0.out).c1
  have hbw : b < w.heap.size := World.block_lt_of_cell? w _ hB.c0
  have HRow : Hid (∀ g, (Value.slice sp T.length sc).ownBlock = some g → g < w.heap.size) := fun g e => (own_in5 hB.own e).2
  have hB0w : B0 ≤ w.heap.size := Nat.le_trans hB.hb (Nat.le_of_lt hbw)
  have E1 : Hid (ErrAt W0 2) := by obtain ⟨ty, v, h⟩ := e1; exact ⟨ty, v, ((bcell HB0.out).1 _ _ (World.block_lt_of_cell? w _ h)).trans h⟩
  have E2 : Hid (ErrAt w 3) := e2
  have E3 : Hid (ErrAt w 5) := e3
  have hrv : Hid (∃ p c, rv = .slice p n c) := by obtain ⟨p, c, e, -⟩ := hr; exact ⟨p, c, e⟩
  clear hW hG hr hf hB hm e1 e2 e3 hz hz1
  obtain ⟨rp, rc, rfl⟩ := hrv.out
  clear hrv
  generalize addB n f pl T.length x = R at *
  by_cases h6 : T.length = 6
  · have q6 : ((T.length : Int) == 6) = true := by rw [beq_iff_eq]; omega
    have HQ : Hid (R = false) := by show _ = _; rw [HAdd.out, decide_eq_true h6]; rfl
    obtain ⟨ety, ev, hev⟩ := E1.out
    have HF : Hid (BookR W0 B0 b bm (.slice rp n rc) T (.slice sp T.length sc) ∧ MapIs W0 bm (N + 5) pl ∧ Below B0 w W0) := ⟨HBk.out.below HB0.out, (HMp.out.below HB0.out).mono (by omega), HB0.out.mono hB0w⟩
    clear h6
    go_enter Tryd.func148, Tryd.ntmps148
    go_upto_region 1 with fail
    rw [← hW0.out]
    clear hW0
    go_wp2
    go_ret
    exact ⟨.inr ⟨HQ.out, ⟨_, _, rfl⟩, HF.out.1, HF.out.2.1⟩, HF.out.2.2⟩
  have q6 : ((T.length : Int) == 6) = false := by rw [beq_eq_false_iff_ne]; omega
  have HAdd2 : Hid (R = (domsB n f x && newB pl T.length (allD x))) := by show _ = _; rw [HAdd.out, decide_eq_false h6]; rfl
  clear HAdd h6
  have KD1 : Hid (∀ W, Below W0.heap.size W0 W → Calls Tryd.prog 182 #[.slice rp n rc, .agg #[.string x.1, .slice up x.2.length uc]] W fun e w' => e = .returned (.bool (domsB n f x)) ∧ Below W.heap.size W w') := fun W hb => KD.out W (HB0.out.trans (hb.mono HB0.out.size))
  clear KD
  generalize domsB n f x = bd at *
  go_enter Tryd.func148, Tryd.ntmps148
  go_upto_region 1 with fail
  rw [← hW0.out]
  clear hW0
  go_wp2_with fail
  have hbW : b < W0.heap.size := Nat.lt_trans hbw z0
  go_region_held3 (fun w' => w'.cell? ⟨b, 0, none⟩ = some (.slice rp n rc) ∧ w'.cell? ⟨w.heap.size, 0, none⟩ = some (.string x.1) ∧ w'.cell? ⟨w.heap.size, 1, none⟩ = some (.slice up x.2.length uc)) (go_keep)
    (first | (go_at_call 182; refine (KD1.out _ (Below.drew (Below.refl _ _))).mono ?_; rintro e w1 ⟨rfl, hb1⟩; have A1 : Below W0.heap.size W0 w1 := after_drew5 hb1; have l0 : w1.cell? ⟨b, 0, none⟩ = some (.slice rp n rc) := ((bcell A1).1 _ _ hbW).trans b0; have l1 : w1.cell? ⟨w.heap.size, 0, none⟩ = some (.string x.1) := ((bcell A1).1 _ _ z0).trans a0; have l2 : w1.cell? ⟨w.heap.size, 1, none⟩ = some (.slice up x.2.length uc) := ((bcell A1).1 _ _ z0).trans a1))
  have B1 : Hid (Below w.heap.size w w1) := HB0.out.trans (A1.mono HB0.out.size)
  have z1 : w.heap.size < w1.heap.size := Nat.lt_of_lt_of_le z0 A1.size
  clear hb1 A1 a0 a1 b0 b1 KD1 E1
  cases bd with
  | false =>
    have HQ : Hid (R = false) := by show _ = _; rw [HAdd2.out]; rfl
    have E21 : ErrAt w1 3 := by obtain ⟨ty, v, h⟩ := E2.out; exact ⟨ty, v, ((bcell B1.out).1 _ _ (World.block_lt_of_cell? w _ h)).trans h⟩
    obtain ⟨ety, ev, hev⟩ := E21
    have HF : Hid (BookR w1 B0 b bm (.slice rp n rc) T (.slice sp T.length sc) ∧ MapIs w1 bm (N + 5) pl ∧ Below B0 w w1) := ⟨HBk.out.below B1.out, (HMp.out.below B1.out).mono (by omega), B1.out.mono hB0w⟩
    go_wp2
    go_ret
    exact ⟨.inr ⟨HQ.out, ⟨_, _, rfl⟩, HF.out.1, HF.out.2.1⟩, HF.out.2.2⟩
  | true =>
    obtain ⟨hx0, hx4, hxp, hxm⟩ := HSz.out rfl
    have Bk1 : Hid (BookR w1 B0 b bm (.slice rp n rc) T (.slice sp T.length sc)) := HBk.out.below B1.out
    have M1 : Hid (MapIs w1 bm N pl) := HMp.out.below B1.out
    have S1 : Hid (SliceS w1 B' (.slice up x.2.length uc) x.2.length (atL x.2)) := HSx.out.below B1.out
    have KT : Hid (Calls Tryd.prog 183 #[.pointer (some ⟨b, 0, none⟩), .agg #[.string x.1, .slice up x.2.length uc]] w1 fun e w' =>
      ((newB pl T.length (allD x) = true ∧ e = .returned .nilIface ∧ MapIs w' bm (N + 5) (plTo pl T.length (allD x) (allD x).length)) ∨ (newB pl T.length (allD x) = false ∧ (∃ ty v, e = .returned (.iface ty v)) ∧ MapIs w' bm (N + 5) pl)) ∧ w1.grownBy w' (some bm)) := take_any b bm N T.length sc sp x _ B' pl w1 S1.out hx0 hx4 (by omega) (fun i hi => by have := hxm i hi; omega) Bk1.out.c1 Bk1.out.c2 M1.out (by omega) (by omega) (by obtain ⟨ty, v, h⟩ := E3.out; exact ⟨ty, v, ((bcell B1.out).1 _ _ (World.block_lt_of_cell? w _ h)).trans h⟩)
    have HXS : Hid (x.1.size ≤ 1000 ∧ ∀ i, i < x.2.length → (atL x.2 i).size ≤ 1000) := ⟨by omega, fun i hi => by have := hxm i hi; omega⟩
    clear hxm hxp HSz HSx HBk HMp E2 E3
    generalize newB pl T.length (allD x) = bn at *
    go_wp2_with fail
    refine KT.out.mono ?_
    rintro e w2 ⟨hres, hg2⟩
    have hbm1 : w.heap.size ≠ bm := M1.out.ne l1
    have m1 : w2.cell? ⟨w.heap.size, 0, none⟩ = some (.string x.1) := grown_cell hg2 l1 hbm1
    have m2 : w2.cell? ⟨w.heap.size, 1, none⟩ = some (.slice up x.2.length uc) := grown_cell hg2 l2 hbm1
    have Bk2 : Hid (BookR w2 B0 b bm (.slice rp n rc) T (.slice sp T.length sc)) := Bk1.out.turned M1.out hg2
    have S2 : Hid (SliceS w2 B' (.slice up x.2.length uc) x.2.length (atL x.2)) := S1.out.keepG hg2 (fun h => by obtain ⟨g, e, -, -, hc⟩ := S1.out.place h; rw [e]; intro e2; exact M1.out.ne hc (Option.some.inj e2))
    have B2 : Hid (Below B0 w w2) := (B1.out.mono hB0w).grown hg2 (Nat.le_trans hB0w B1.out.size) (fun j hj => by have := Option.some.inj hj; have := Bk1.out.hbm; omega)
    have z2 : w.heap.size < w2.heap.size := Nat.lt_of_lt_of_le z1 hg2.size
    clear hg2 KT S1 Bk1 M1 l0 l1 l2
    rcases hres with ⟨rfl, rfl, hm2⟩ | ⟨rfl, ⟨ty, v, rfl⟩, hm2⟩
    case inr =>
      have HQ : Hid (R = false) := by show _ = _; rw [HAdd2.out]; rfl
      have HF : Hid (MapIs w2 bm (N + 5) pl) := hm2
      clear hm2
      go_wp2
      go_ret
      exact ⟨.inr ⟨HQ.out, ⟨_, _, rfl⟩, Bk2.out, HF.out⟩, B2.out⟩
    case inl =>
      have HQ : Hid (R = true) := by show _ = _; rw [HAdd2.out]; rfl
      have M2 : Hid (MapIs w2 bm (N + 5) (plTo pl T.length (allD x) (allD x).length)) := hm2
      have KC : Hid (∀ W, Below w2.heap.size w2 W → Calls Tryd.prog 184 #[.agg #[.string x.1, .slice up x.2.length uc]] W fun e w' => ∃ p c, e = .returned (.agg #[.string x.1, .slice p x.2.length c]) ∧ SliceS w' W.heap.size (.slice p x.2.length c) x.2.length (atL x.2) ∧ Below W.heap.size W w') := fun W hb => setCopy_any x _ B' W (S2.out.below hb) hx0 (by omega) HXS.out.1 HXS.out.2
      have c1 : w2.cell? ⟨b, 1, none⟩ = some (.slice sp T.length sc) := Bk2.out.c1
      have cf := Bk2.out.fz 1
      have hb2 : b < w2.heap.size := Nat.lt_trans hbw z2
      have hfar : ¬ b = w.heap.size := by omega
      have nb : (Value.slice sp T.length sc).ownBlock ≠ some b := Bk2.out.nb
      have nx : (Value.slice sp T.length sc).ownBlock ≠ some w.heap.size := fun e => by have := HRow.out _ e; omega
      obtain ⟨i0, hi, hy0, hy1, hy2⟩ := info_parts infoSet6
      have HT4 : Hid ((T.length + 1) * 40 ≤ 140737488355328 ∧ T.length + 1 ≤ maxLen) := by show _ ∧ _; unfold maxLen; omega
      clear hm2 S2 HXS
      go_wp2_with fail
      refine wp_region_held_drew (S := (fun w' => w'.cell? ⟨w.heap.size, 0, none⟩ = some (.string x.1) ∧ w'.cell? ⟨w.heap.size, 1, none⟩ = some (.slice up x.2.length uc))) (by kernel_rfl) ?_ (fun hH0 => ?_)
      · (try dsimp only)
        first | go_keep | (refine ⟨?_, ?_⟩ <;> assumption) | (refine ⟨?_, ?_⟩ <;> (rw [World.cell?_setCell_far _ _ _ _ hfar]; assumption))
      refine wpAnyH_take (i := 0) (oi := { dst := some 27, op := Op.move (Operand.tmp 0), type := 154, pos := "l05_related.go:79", after := #[], guard := none }) (v := ?va1) rfl (by kernel_rfl) (by kernel_rfl) (by kernel_rfl) (fun _ _ _ h => h) (Or.inl ⟨by rfl, ?hya1⟩) (by assumption) ?resta1
      case hya1 =>
        intro w hSw
        (try dsimp only at hSw)
        go_simp
        try with_reducible rfl
      try simp only [Act.put, List.setIfInBounds_toArray, List.set_cons_zero, List.set_cons_succ]
      refine wpAnyH_take (i := 1) (oi := { dst := some 28, op := Op.move (Operand.tmp 0), type := 154, pos := "l05_related.go:79", after := #[], guard := none }) (v := ?va2) rfl (by kernel_rfl) (by kernel_rfl) (by kernel_rfl) (fun _ _ _ h => h) (Or.inl ⟨by rfl, ?hya2⟩) (by assumption) ?resta2
      case hya2 =>
        intro w hSw
        (try dsimp only at hSw)
        go_simp
        try with_reducible rfl
      try simp only [Act.put, List.setIfInBounds_toArray, List.set_cons_zero, List.set_cons_succ]
      refine wpAnyH_take (i := 2) (oi := { dst := some 29, op := Op.nilCheck (Operand.tmp 28), type := 0, pos := "l05_related.go:79", after := #[{ on := 1, ground := Ground.data }], guard := none }) (v := ?va3) rfl (by kernel_rfl) (by kernel_rfl) (by kernel_rfl) (fun _ _ _ h => h) (Or.inl ⟨by rfl, ?hya3⟩) (by assumption) ?resta3
      case hya3 =>
        intro w hSw
        (try dsimp only at hSw)
        go_simp
        try with_reducible rfl
      try simp only [Act.put, List.setIfInBounds_toArray, List.set_cons_zero, List.set_cons_succ]
      refine wpAnyH_take (i := 3) (oi := { dst := some 30, op := Op.fieldAddr 107 (Operand.tmp 29) 1, type := 0, pos := "l05_related.go:79", after := #[{ on := 2, ground := Ground.data }], guard := none }) (v := ?va4) rfl (by kernel_rfl) (by kernel_rfl) (by kernel_rfl) (fun _ _ _ h => h) (Or.inl ⟨by rfl, ?hya4⟩) (by assumption) ?resta4
      case hya4 =>
        intro w hSw
        (try dsimp only at hSw)
        go_simp
        try with_reducible rfl
      try simp only [Act.put, List.setIfInBounds_toArray, List.set_cons_zero, List.set_cons_succ]
      refine wpAnyH_take (i := 5) (oi := { dst := some 32, op := Op.load 47 (Operand.tmp 3), type := 47, pos := "l05_related.go:79", after := #[], guard := none }) (v := ?va5) rfl (by kernel_rfl) (by kernel_rfl) (by kernel_rfl) (fun _ _ _ h => h) (Or.inl ⟨by rfl, ?hya5⟩) (by assumption) ?resta5
      case hya5 =>
        intro w hSw
        (try dsimp only at hSw)
        go_simp
        try with_reducible rfl
      try simp only [Act.put, List.setIfInBounds_toArray, List.set_cons_zero, List.set_cons_succ]
      refine wpAnyH_ready (rs := [4, 6]) (by kernel_rfl) (by simp) ?_
      refine AllReadyH.cons (o := { dst := some 31, op := Op.load 41 (Operand.tmp 30), type := 41, pos := "l05_related.go:79", after := #[{ on := 3, ground := Ground.data }], guard := none }) rfl (fun K hK => ?_) (AllReadyH.cons (o := { dst := some 33, op := Op.call { callee := Callee.value (Operand.func 184), args := #[Operand.tmp 32], argTypes := #[47] }, type := 47, pos := "l05_related.go:79", after := #[{ on := 5, ground := Ground.data }], guard := none }) rfl (fun K hK => ?_) AllReadyH.nil)
      · skip
        go_simp
        try (go_wp2_with fail)
        refine hK.out _ _ ?_ (fun hH1 => ?_)
        · (try dsimp only)
          first | go_keep | (refine ⟨?_, ?_⟩ <;> assumption) | (refine ⟨?_, ?_⟩ <;> (rw [World.cell?_setCell_far _ _ _ _ hfar]; assumption))
        clear hK K hH0
        try simp only [Act.put, List.setIfInBounds_toArray, List.set_cons_zero, List.set_cons_succ]
        refine wpAnyH_ready (rs := [6]) (by kernel_rfl) (by simp) ?_
        refine AllReadyH.cons (o := { dst := some 33, op := Op.call { callee := Callee.value (Operand.func 184), args := #[Operand.tmp 32], argTypes := #[47] }, type := 47, pos := "l05_related.go:79", after := #[{ on := 5, ground := Ground.data }], guard := none }) rfl (fun K hK => ?_) AllReadyH.nil
        · skip
          go_simp
          (go_at_call 184; refine (KC.out _ (Below.drew (Below.refl _ _))).mono ?_; rintro e w3 ⟨cp, cc, rfl, hs3, hb3⟩; have A3 : Below w2.heap.size w2 w3 := after_drew5 hb3; have hz3 : w2.heap.size ≤ w3.heap.size := A3.size; have d0 : w3.cell? ⟨w.heap.size, 0, none⟩ = some (.string x.1) := ((bcell A3).1 _ _ z2).trans m1; have d2 : w3.cell? ⟨w.heap.size, 1, none⟩ = some (.slice up x.2.length uc) := ((bcell A3).1 _ _ z2).trans m2; have d1 : w3.cell? ⟨b, 1, none⟩ = some (.slice sp T.length sc) := ((bcell A3).1 _ _ hb2).trans c1; have S3 : Hid (SliceS w3 w2.heap.size (.slice cp x.2.length cc) x.2.length (atL x.2)) := hs3; have O3 : Hid (w3.ownsRow B0 47 2 (.slice sp T.length sc) T.length (setCs T)) := ownR_below Bk2.out.own A3; have da : ∀ o, (w3.alloc o).cell? ⟨b, 1, none⟩ = some (.slice sp T.length sc) := fun o => ((bcell ((Below.refl w3.heap.size w3).alloc (Nat.le_refl _) o)).1 _ _ (Nat.lt_of_lt_of_le hb2 hz3)).trans d1; have dx0 : ∀ o, (w3.alloc o).cell? ⟨w.heap.size, 0, none⟩ = some (.string x.1) := fun o => ((bcell ((Below.refl w3.heap.size w3).alloc (Nat.le_refl _) o)).1 _ _ (Nat.lt_of_lt_of_le z2 hz3)).trans d0; have dx1 : ∀ o, (w3.alloc o).cell? ⟨w.heap.size, 1, none⟩ = some (.slice up x.2.length uc) := fun o => ((bcell ((Below.refl w3.heap.size w3).alloc (Nat.le_refl _) o)).1 _ _ (Nat.lt_of_lt_of_le z2 hz3)).trans d2; clear hb3 hs3)
          try (go_wp2_with fail)
          refine hK.out _ _ ?_ (fun hH2 => ?_)
          · (try dsimp only)
            first | go_keep | (refine ⟨?_, ?_⟩ <;> assumption) | (refine ⟨?_, ?_⟩ <;> (rw [World.cell?_setCell_far _ _ _ _ hfar]; assumption))
          clear hK K hH1
          try simp only [Act.put, List.setIfInBounds_toArray, List.set_cons_zero, List.set_cons_succ]
          refine wpAnyH_ready (rs := [7]) (by kernel_rfl) (by simp) ?_
          refine AllReadyH.cons (o := { dst := some 34, op := Op.buildSlice 41 1 #[(0, Operand.tmp 33)], type := 41, pos := "l05_related.go:79", after := #[{ on := 6, ground := Ground.data }], guard := none }) rfl (fun K hK => ?_) AllReadyH.nil
          · skip
            go_simp
            try (go_wp2_with fail)
            refine hK.out _ _ ?_ (fun hH3 => ?_)
            · (try dsimp only)
              first | go_keep | (refine ⟨?_, ?_⟩ <;> assumption) | (refine ⟨?_, ?_⟩ <;> (rw [World.cell?_setCell_far _ _ _ _ hfar]; assumption))
            clear hK K hH2
            try simp only [Act.put, List.setIfInBounds_toArray, List.set_cons_zero, List.set_cons_succ]
            refine wpAnyH_ready (rs := [8]) (by kernel_rfl) (by simp) ?_
            refine AllReadyH.cons (o := { dst := some 35, op := Op.call { callee := Callee.builtin Builtin.append, args := #[Operand.tmp 31, Operand.tmp 34], argTypes := #[41, 41] }, type := 41, pos := "l05_related.go:79", after := #[{ on := 4, ground := Ground.data }, { on := 7, ground := Ground.data }, { on := 6, ground := Ground.chain }], guard := none }) rfl (fun K hK => ?_) AllReadyH.nil
            · skip
              (refine step_append_lies _ (by rfl) _ _ _ (by rfl) B0 47 i0 (.agg #[.string ⟨#[]⟩, .slice none 0 0]) 2 40 Tryd.underlying41 hi hy0 hy1 hy2 rfl (by omega) (.slice sp T.length sc) T.length (setCs T) (by rfl) (O3.out.alloc _) ⟨w3.heap.size, 0, none⟩ 1 1 [.string x.1, .slice cp x.2.length cc] (by rfl) (by rfl) (World.news_of_block (cs := #[.string x.1, .slice cp x.2.length cc]) (t := 47) (fr := (0, 0)) (heap_alloc_new w3 _)) (by simp [Value.oneCell']) (by omega) HT4.out.2 HT4.out.1 (by simp; omega) (w3.heap.size + 1) (by simp) ?_; intro gg cap w4 hown4 hgrow hat hlt4; have e0 : w4.cell? ⟨b, 1, none⟩ = some (.slice sp T.length sc) := hgrow.cell (da _) (Ne.symm nb); have ex0 : w4.cell? ⟨w.heap.size, 0, none⟩ = some (.string x.1) := hgrow.cell (dx0 _) (Ne.symm nx); have ex1 : w4.cell? ⟨w.heap.size, 1, none⟩ = some (.slice up x.2.length uc) := hgrow.cell (dx1 _) (Ne.symm nx); have ef : w4.frozen? ⟨b, 1, none⟩ = false := by (rw [World.frozen?_of_block (a := ⟨b, 1, none⟩) (hgrow.block b (by simp; omega) (Ne.symm nb))]; exact ((bcell ((Below.refl w3.heap.size w3).alloc (Nat.le_refl _) _)).2 _ _ (Nat.lt_of_lt_of_le hb2 hz3)).trans (((bcell A3).2 _ _ hb2).trans cf)))
              refine hK.out _ _ ?_ (fun hH4 => ?_)
              · (try dsimp only)
                first | go_keep | (refine ⟨?_, ?_⟩ <;> assumption) | (refine ⟨?_, ?_⟩ <;> (rw [World.cell?_setCell_far _ _ _ _ hfar]; assumption))
              clear hK K hH3
              try simp only [Act.put, List.setIfInBounds_toArray, List.set_cons_zero, List.set_cons_succ]
              refine wpAnyH_take (i := 9) (oi := { dst := some 36, op := Op.nilCheck (Operand.tmp 27), type := 0, pos := "l05_related.go:79", after := #[{ on := 0, ground := Ground.data }, { on := 0, ground := Ground.phase }, { on := 1, ground := Ground.phase }, { on := 2, ground := Ground.phase }, { on := 3, ground := Ground.phase }, { on := 4, ground := Ground.phase }, { on := 5, ground := Ground.phase }, { on := 6, ground := Ground.phase }, { on := 7, ground := Ground.phase }, { on := 8, ground := Ground.phase }], guard := none }) (v := ?va6) rfl (by kernel_rfl) (by kernel_rfl) (by kernel_rfl) (fun _ _ _ h => h) (Or.inl ⟨by rfl, ?hya6⟩) (by assumption) ?resta6
              case hya6 =>
                intro w hSw
                (try dsimp only at hSw)
                go_simp
                try with_reducible rfl
              try simp only [Act.put, List.setIfInBounds_toArray, List.set_cons_zero, List.set_cons_succ]
              refine wpAnyH_take (i := 10) (oi := { dst := some 37, op := Op.fieldAddr 107 (Operand.tmp 36) 1, type := 0, pos := "l05_related.go:79", after := #[{ on := 9, ground := Ground.data }, { on := 0, ground := Ground.phase }, { on := 1, ground := Ground.phase }, { on := 2, ground := Ground.phase }, { on := 3, ground := Ground.phase }, { on := 4, ground := Ground.phase }, { on := 5, ground := Ground.phase }, { on := 6, ground := Ground.phase }, { on := 7, ground := Ground.phase }, { on := 8, ground := Ground.phase }], guard := none }) (v := ?va7) rfl (by kernel_rfl) (by kernel_rfl) (by kernel_rfl) (fun _ _ _ h => h) (Or.inl ⟨by rfl, ?hya7⟩) (by assumption) ?resta7
              case hya7 =>
                intro w hSw
                (try dsimp only at hSw)
                go_simp
                try with_reducible rfl
              try simp only [Act.put, List.setIfInBounds_toArray, List.set_cons_zero, List.set_cons_succ]
              refine wpAnyH_ready (rs := [11]) (by kernel_rfl) (by simp) ?_
              refine AllReadyH.cons (o := { dst := none, op := Op.store 41 (Operand.tmp 37) (Operand.tmp 35), type := 0, pos := "l05_related.go:79", after := #[{ on := 10, ground := Ground.data }, { on := 8, ground := Ground.data }, { on := 8, ground := Ground.chain }, { on := 0, ground := Ground.phase }, { on := 1, ground := Ground.phase }, { on := 2, ground := Ground.phase }, { on := 3, ground := Ground.phase }, { on := 4, ground := Ground.phase }, { on := 5, ground := Ground.phase }, { on := 6, ground := Ground.phase }, { on := 7, ground := Ground.phase }, { on := 8, ground := Ground.phase }], guard := none }) rfl (fun K hK => ?_) AllReadyH.nil
              · skip
                go_simp
                try (go_wp2_with fail)
                refine hK.out _ _ ?_ (fun hH5 => ?_)
                · (try dsimp only)
                  first | go_keep | (refine ⟨?_, ?_⟩ <;> assumption) | (refine ⟨?_, ?_⟩ <;> (rw [World.cell?_setCell_far _ _ _ _ hfar]; assumption))
                clear hK K hH4
                try simp only [Act.put, List.setIfInBounds_toArray, List.set_cons_zero, List.set_cons_succ]
                refine wpAnyH_done (by kernel_rfl) ?_ _
                go_wp2
                go_ret
                have BkF := BookR.push Bk2.out A3 S3.out hx0 hown4 hgrow hat
                have MF : MapIs (w4.setCell ⟨b, 1, none⟩ (.slice (some ⟨gg, 0, none⟩) (T.length + 1) cap)) bm (N + 5) (plTo pl T.length (allD x) (allD x).length) := ((((M2.out.below A3).below ((Below.refl _ _).alloc (Nat.le_refl _) _)).kept hgrow (fun e => (own_ne_map Bk2.out.own M2.out e.symm) rfl)).far (fun e => M2.out.ne c1 e.symm))
                have BF : Below B0 w (w4.setCell ⟨b, 1, none⟩ (.slice (some ⟨gg, 0, none⟩) (T.length + 1) cap)) := Below.setCell (((B2.out.trans (A3.mono (Nat.le_trans hB0w (Nat.le_of_lt z2)))).alloc (Nat.le_trans hB0w (Nat.le_trans (Nat.le_of_lt z2) hz3)) _).grown hgrow (Nat.le_trans hB0w (Nat.le_trans (Nat.le_of_lt z2) (by simp; omega))) (fun j hj => (own_in5 Bk2.out.own hj).1)) Bk2.out.hb _
                exact ⟨.inl ⟨HQ.out, rfl, ⟨_, _, BkF⟩, MF⟩, BF⟩
      · skip
        go_simp
        (go_at_call 184; refine (KC.out _ (Below.drew (Below.refl _ _))).mono ?_; rintro e w3 ⟨cp, cc, rfl, hs3, hb3⟩; have A3 : Below w2.heap.size w2 w3 := after_drew5 hb3; have hz3 : w2.heap.size ≤ w3.heap.size := A3.size; have d0 : w3.cell? ⟨w.heap.size, 0, none⟩ = some (.string x.1) := ((bcell A3).1 _ _ z2).trans m1; have d2 : w3.cell? ⟨w.heap.size, 1, none⟩ = some (.slice up x.2.length uc) := ((bcell A3).1 _ _ z2).trans m2; have d1 : w3.cell? ⟨b, 1, none⟩ = some (.slice sp T.length sc) := ((bcell A3).1 _ _ hb2).trans c1; have S3 : Hid (SliceS w3 w2.heap.size (.slice cp x.2.length cc) x.2.length (atL x.2)) := hs3; have O3 : Hid (w3.ownsRow B0 47 2 (.slice sp T.length sc) T.length (setCs T)) := ownR_below Bk2.out.own A3; have da : ∀ o, (w3.alloc o).cell? ⟨b, 1, none⟩ = some (.slice sp T.length sc) := fun o => ((bcell ((Below.refl w3.heap.size w3).alloc (Nat.le_refl _) o)).1 _ _ (Nat.lt_of_lt_of_le hb2 hz3)).trans d1; have dx0 : ∀ o, (w3.alloc o).cell? ⟨w.heap.size, 0, none⟩ = some (.string x.1) := fun o => ((bcell ((Below.refl w3.heap.size w3).alloc (Nat.le_refl _) o)).1 _ _ (Nat.lt_of_lt_of_le z2 hz3)).trans d0; have dx1 : ∀ o, (w3.alloc o).cell? ⟨w.heap.size, 1, none⟩ = some (.slice up x.2.length uc) := fun o => ((bcell ((Below.refl w3.heap.size w3).alloc (Nat.le_refl _) o)).1 _ _ (Nat.lt_of_lt_of_le z2 hz3)).trans d2; clear hb3 hs3)
        try (go_wp2_with fail)
        refine hK.out _ _ ?_ (fun hH1 => ?_)
        · (try dsimp only)
          first | go_keep | (refine ⟨?_, ?_⟩ <;> assumption) | (refine ⟨?_, ?_⟩ <;> (rw [World.cell?_setCell_far _ _ _ _ hfar]; assumption))
        clear hK K hH0
        try simp only [Act.put, List.setIfInBounds_toArray, List.set_cons_zero, List.set_cons_succ]
        refine wpAnyH_ready (rs := [4, 7]) (by kernel_rfl) (by simp) ?_
        refine AllReadyH.cons (o := { dst := some 31, op := Op.load 41 (Operand.tmp 30), type := 41, pos := "l05_related.go:79", after := #[{ on := 3, ground := Ground.data }], guard := none }) rfl (fun K hK => ?_) (AllReadyH.cons (o := { dst := some 34, op := Op.buildSlice 41 1 #[(0, Operand.tmp 33)], type := 41, pos := "l05_related.go:79", after := #[{ on := 6, ground := Ground.data }], guard := none }) rfl (fun K hK => ?_) AllReadyH.nil)
        · skip
          go_simp
          try (go_wp2_with fail)
          refine hK.out _ _ ?_ (fun hH2 => ?_)
          · (try dsimp only)
            first | go_keep | (refine ⟨?_, ?_⟩ <;> assumption) | (refine ⟨?_, ?_⟩ <;> (rw [World.cell?_setCell_far _ _ _ _ hfar]; assumption))
          clear hK K hH1
          try simp only [Act.put, List.setIfInBounds_toArray, List.set_cons_zero, List.set_cons_succ]
          refine wpAnyH_ready (rs := [7]) (by kernel_rfl) (by simp) ?_
          refine AllReadyH.cons (o := { dst := some 34, op := Op.buildSlice 41 1 #[(0, Operand.tmp 33)], type := 41, pos := "l05_related.go:79", after := #[{ on := 6, ground := Ground.data }], guard := none }) rfl (fun K hK => ?_) AllReadyH.nil
          · skip
            go_simp
            try (go_wp2_with fail)
            refine hK.out _ _ ?_ (fun hH3 => ?_)
            · (try dsimp only)
              first | go_keep | (refine ⟨?_, ?_⟩ <;> assumption) | (refine ⟨?_, ?_⟩ <;> (rw [World.cell?_setCell_far _ _ _ _ hfar]; assumption))
            clear hK K hH2
            try simp only [Act.put, List.setIfInBounds_toArray, List.set_cons_zero, List.set_cons_succ]
            refine wpAnyH_ready (rs := [8]) (by kernel_rfl) (by simp) ?_
            refine AllReadyH.cons (o := { dst := some 35, op := Op.call { callee := Callee.builtin Builtin.append, args := #[Operand.tmp 31, Operand.tmp 34], argTypes := #[41, 41] }, type := 41, pos := "l05_related.go:79", after := #[{ on := 4, ground := Ground.data }, { on := 7, ground := Ground.data }, { on := 6, ground := Ground.chain }], guard := none }) rfl (fun K hK => ?_) AllReadyH.nil
            · skip
              (refine step_append_lies _ (by rfl) _ _ _ (by rfl) B0 47 i0 (.agg #[.string ⟨#[]⟩, .slice none 0 0]) 2 40 Tryd.underlying41 hi hy0 hy1 hy2 rfl (by omega) (.slice sp T.length sc) T.length (setCs T) (by rfl) (O3.out.alloc _) ⟨w3.heap.size, 0, none⟩ 1 1 [.string x.1, .slice cp x.2.length cc] (by rfl) (by rfl) (World.news_of_block (cs := #[.string x.1, .slice cp x.2.length cc]) (t := 47) (fr := (0, 0)) (heap_alloc_new w3 _)) (by simp [Value.oneCell']) (by omega) HT4.out.2 HT4.out.1 (by simp; omega) (w3.heap.size + 1) (by simp) ?_; intro gg cap w4 hown4 hgrow hat hlt4; have e0 : w4.cell? ⟨b, 1, none⟩ = some (.slice sp T.length sc) := hgrow.cell (da _) (Ne.symm nb); have ex0 : w4.cell? ⟨w.heap.size, 0, none⟩ = some (.string x.1) := hgrow.cell (dx0 _) (Ne.symm nx); have ex1 : w4.cell? ⟨w.heap.size, 1, none⟩ = some (.slice up x.2.length uc) := hgrow.cell (dx1 _) (Ne.symm nx); have ef : w4.frozen? ⟨b, 1, none⟩ = false := by (rw [World.frozen?_of_block (a := ⟨b, 1, none⟩) (hgrow.block b (by simp; omega) (Ne.symm nb))]; exact ((bcell ((Below.refl w3.heap.size w3).alloc (Nat.le_refl _) _)).2 _ _ (Nat.lt_of_lt_of_le hb2 hz3)).trans (((bcell A3).2 _ _ hb2).trans cf)))
              refine hK.out _ _ ?_ (fun hH4 => ?_)
              · (try dsimp only)
                first | go_keep | (refine ⟨?_, ?_⟩ <;> assumption) | (refine ⟨?_, ?_⟩ <;> (rw [World.cell?_setCell_far _ _ _ _ hfar]; assumption))
              clear hK K hH3
              try simp only [Act.put, List.setIfInBounds_toArray, List.set_cons_zero, List.set_cons_succ]
              refine wpAnyH_take (i := 9) (oi := { dst := some 36, op := Op.nilCheck (Operand.tmp 27), type := 0, pos := "l05_related.go:79", after := #[{ on := 0, ground := Ground.data }, { on := 0, ground := Ground.phase }, { on := 1, ground := Ground.phase }, { on := 2, ground := Ground.phase }, { on := 3, ground := Ground.phase }, { on := 4, ground := Ground.phase }, { on := 5, ground := Ground.phase }, { on := 6, ground := Ground.phase }, { on := 7, ground := Ground.phase }, { on := 8, ground := Ground.phase }], guard := none }) (v := ?va8) rfl (by kernel_rfl) (by kernel_rfl) (by kernel_rfl) (fun _ _ _ h => h) (Or.inl ⟨by rfl, ?hya8⟩) (by assumption) ?resta8
              case hya8 =>
                intro w hSw
                (try dsimp only at hSw)
                go_simp
                try with_reducible rfl
              try simp only [Act.put, List.setIfInBounds_toArray, List.set_cons_zero, List.set_cons_succ]
              refine wpAnyH_take (i := 10) (oi := { dst := some 37, op := Op.fieldAddr 107 (Operand.tmp 36) 1, type := 0, pos := "l05_related.go:79", after := #[{ on := 9, ground := Ground.data }, { on := 0, ground := Ground.phase }, { on := 1, ground := Ground.phase }, { on := 2, ground := Ground.phase }, { on := 3, ground := Ground.phase }, { on := 4, ground := Ground.phase }, { on := 5, ground := Ground.phase }, { on := 6, ground := Ground.phase }, { on := 7, ground := Ground.phase }, { on := 8, ground := Ground.phase }], guard := none }) (v := ?va9) rfl (by kernel_rfl) (by kernel_rfl) (by kernel_rfl) (fun _ _ _ h => h) (Or.inl ⟨by rfl, ?hya9⟩) (by assumption) ?resta9
              case hya9 =>
                intro w hSw
                (try dsimp only at hSw)
                go_simp
                try with_reducible rfl
              try simp only [Act.put, List.setIfInBounds_toArray, List.set_cons_zero, List.set_cons_succ]
              refine wpAnyH_ready (rs := [11]) (by kernel_rfl) (by simp) ?_
              refine AllReadyH.cons (o := { dst := none, op := Op.store 41 (Operand.tmp 37) (Operand.tmp 35), type := 0, pos := "l05_related.go:79", after := #[{ on := 10, ground := Ground.data }, { on := 8, ground := Ground.data }, { on := 8, ground := Ground.chain }, { on := 0, ground := Ground.phase }, { on := 1, ground := Ground.phase }, { on := 2, ground := Ground.phase }, { on := 3, ground := Ground.phase }, { on := 4, ground := Ground.phase }, { on := 5, ground := Ground.phase }, { on := 6, ground := Ground.phase }, { on := 7, ground := Ground.phase }, { on := 8, ground := Ground.phase }], guard := none }) rfl (fun K hK => ?_) AllReadyH.nil
              · skip
                go_simp
                try (go_wp2_with fail)
                refine hK.out _ _ ?_ (fun hH5 => ?_)
                · (try dsimp only)
                  first | go_keep | (refine ⟨?_, ?_⟩ <;> assumption) | (refine ⟨?_, ?_⟩ <;> (rw [World.cell?_setCell_far _ _ _ _ hfar]; assumption))
                clear hK K hH4
                try simp only [Act.put, List.setIfInBounds_toArray, List.set_cons_zero, List.set_cons_succ]
                refine wpAnyH_done (by kernel_rfl) ?_ _
                go_wp2
                go_ret
                have BkF := BookR.push Bk2.out A3 S3.out hx0 hown4 hgrow hat
                have MF : MapIs (w4.setCell ⟨b, 1, none⟩ (.slice (some ⟨gg, 0, none⟩) (T.length + 1) cap)) bm (N + 5) (plTo pl T.length (allD x) (allD x).length) := ((((M2.out.below A3).below ((Below.refl _ _).alloc (Nat.le_refl _) _)).kept hgrow (fun e => (own_ne_map Bk2.out.own M2.out e.symm) rfl)).far (fun e => M2.out.ne c1 e.symm))
                have BF : Below B0 w (w4.setCell ⟨b, 1, none⟩ (.slice (some ⟨gg, 0, none⟩) (T.length + 1) cap)) := Below.setCell (((B2.out.trans (A3.mono (Nat.le_trans hB0w (Nat.le_of_lt z2)))).alloc (Nat.le_trans hB0w (Nat.le_trans (Nat.le_of_lt z2) hz3)) _).grown hgrow (Nat.le_trans hB0w (Nat.le_trans (Nat.le_of_lt z2) (by simp; omega))) (fun j hj => (own_in5 Bk2.out.own hj).1)) Bk2.out.hb _
                exact ⟨.inl ⟨HQ.out, rfl, ⟨_, _, BkF⟩, MF⟩, BF⟩
        · skip
          go_simp
          try (go_wp2_with fail)
          refine hK.out _ _ ?_ (fun hH2 => ?_)
          · (try dsimp only)
            first | go_keep | (refine ⟨?_, ?_⟩ <;> assumption) | (refine ⟨?_, ?_⟩ <;> (rw [World.cell?_setCell_far _ _ _ _ hfar]; assumption))
          clear hK K hH1
          try simp only [Act.put, List.setIfInBounds_toArray, List.set_cons_zero, List.set_cons_succ]
          refine wpAnyH_ready (rs := [4]) (by kernel_rfl) (by simp) ?_
          refine AllReadyH.cons (o := { dst := some 31, op := Op.load 41 (Operand.tmp 30), type := 41, pos := "l05_related.go:79", after := #[{ on := 3, ground := Ground.data }], guard := none }) rfl (fun K hK => ?_) AllReadyH.nil
          · skip
            go_simp
            try (go_wp2_with fail)
            refine hK.out _ _ ?_ (fun hH3 => ?_)
            · (try dsimp only)
              first | go_keep | (refine ⟨?_, ?_⟩ <;> assumption) | (refine ⟨?_, ?_⟩ <;> (rw [World.cell?_setCell_far _ _ _ _ hfar]; assumption))
            clear hK K hH2
            try simp only [Act.put, List.setIfInBounds_toArray, List.set_cons_zero, List.set_cons_succ]
            refine wpAnyH_ready (rs := [8]) (by kernel_rfl) (by simp) ?_
            refine AllReadyH.cons (o := { dst := some 35, op := Op.call { callee := Callee.builtin Builtin.append, args := #[Operand.tmp 31, Operand.tmp 34], argTypes := #[41, 41] }, type := 41, pos := "l05_related.go:79", after := #[{ on := 4, ground := Ground.data }, { on := 7, ground := Ground.data }, { on := 6, ground := Ground.chain }], guard := none }) rfl (fun K hK => ?_) AllReadyH.nil
            · skip
              (refine step_append_lies _ (by rfl) _ _ _ (by rfl) B0 47 i0 (.agg #[.string ⟨#[]⟩, .slice none 0 0]) 2 40 Tryd.underlying41 hi hy0 hy1 hy2 rfl (by omega) (.slice sp T.length sc) T.length (setCs T) (by rfl) (O3.out.alloc _) ⟨w3.heap.size, 0, none⟩ 1 1 [.string x.1, .slice cp x.2.length cc] (by rfl) (by rfl) (World.news_of_block (cs := #[.string x.1, .slice cp x.2.length cc]) (t := 47) (fr := (0, 0)) (heap_alloc_new w3 _)) (by simp [Value.oneCell']) (by omega) HT4.out.2 HT4.out.1 (by simp; omega) (w3.heap.size + 1) (by simp) ?_; intro gg cap w4 hown4 hgrow hat hlt4; have e0 : w4.cell? ⟨b, 1, none⟩ = some (.slice sp T.length sc) := hgrow.cell (da _) (Ne.symm nb); have ex0 : w4.cell? ⟨w.heap.size, 0, none⟩ = some (.string x.1) := hgrow.cell (dx0 _) (Ne.symm nx); have ex1 : w4.cell? ⟨w.heap.size, 1, none⟩ = some (.slice up x.2.length uc) := hgrow.cell (dx1 _) (Ne.symm nx); have ef : w4.frozen? ⟨b, 1, none⟩ = false := by (rw [World.frozen?_of_block (a := ⟨b, 1, none⟩) (hgrow.block b (by simp; omega) (Ne.symm nb))]; exact ((bcell ((Below.refl w3.heap.size w3).alloc (Nat.le_refl _) _)).2 _ _ (Nat.lt_of_lt_of_le hb2 hz3)).trans (((bcell A3).2 _ _ hb2).trans cf)))
              refine hK.out _ _ ?_ (fun hH4 => ?_)
              · (try dsimp only)
                first | go_keep | (refine ⟨?_, ?_⟩ <;> assumption) | (refine ⟨?_, ?_⟩ <;> (rw [World.cell?_setCell_far _ _ _ _ hfar]; assumption))
              clear hK K hH3
              try simp only [Act.put, List.setIfInBounds_toArray, List.set_cons_zero, List.set_cons_succ]
              refine wpAnyH_take (i := 9) (oi := { dst := some 36, op := Op.nilCheck (Operand.tmp 27), type := 0, pos := "l05_related.go:79", after := #[{ on := 0, ground := Ground.data }, { on := 0, ground := Ground.phase }, { on := 1, ground := Ground.phase }, { on := 2, ground := Ground.phase }, { on := 3, ground := Ground.phase }, { on := 4, ground := Ground.phase }, { on := 5, ground := Ground.phase }, { on := 6, ground := Ground.phase }, { on := 7, ground := Ground.phase }, { on := 8, ground := Ground.phase }], guard := none }) (v := ?va10) rfl (by kernel_rfl) (by kernel_rfl) (by kernel_rfl) (fun _ _ _ h => h) (Or.inl ⟨by rfl, ?hya10⟩) (by assumption) ?resta10
              case hya10 =>
                intro w hSw
                (try dsimp only at hSw)
                go_simp
                try with_reducible rfl
              try simp only [Act.put, List.setIfInBounds_toArray, List.set_cons_zero, List.set_cons_succ]
              refine wpAnyH_take (i := 10) (oi := { dst := some 37, op := Op.fieldAddr 107 (Operand.tmp 36) 1, type := 0, pos := "l05_related.go:79", after := #[{ on := 9, ground := Ground.data }, { on := 0, ground := Ground.phase }, { on := 1, ground := Ground.phase }, { on := 2, ground := Ground.phase }, { on := 3, ground := Ground.phase }, { on := 4, ground := Ground.phase }, { on := 5, ground := Ground.phase }, { on := 6, ground := Ground.phase }, { on := 7, ground := Ground.phase }, { on := 8, ground := Ground.phase }], guard := none }) (v := ?va11) rfl (by kernel_rfl) (by kernel_rfl) (by kernel_rfl) (fun _ _ _ h => h) (Or.inl ⟨by rfl, ?hya11⟩) (by assumption) ?resta11
              case hya11 =>
                intro w hSw
                (try dsimp only at hSw)
                go_simp
                try with_reducible rfl
              try simp only [Act.put, List.setIfInBounds_toArray, List.set_cons_zero, List.set_cons_succ]
              refine wpAnyH_ready (rs := [11]) (by kernel_rfl) (by simp) ?_
              refine AllReadyH.cons (o := { dst := none, op := Op.store 41 (Operand.tmp 37) (Operand.tmp 35), type := 0, pos := "l05_related.go:79", after := #[{ on := 10, ground := Ground.data }, { on := 8, ground := Ground.data }, { on := 8, ground := Ground.chain }, { on := 0, ground := Ground.phase }, { on := 1, ground := Ground.phase }, { on := 2, ground := Ground.phase }, { on := 3, ground := Ground.phase }, { on := 4, ground := Ground.phase }, { on := 5, ground := Ground.phase }, { on := 6, ground := Ground.phase }, { on := 7, ground := Ground.phase }, { on := 8, ground := Ground.phase }], guard := none }) rfl (fun K hK => ?_) AllReadyH.nil
              · skip
                go_simp
                try (go_wp2_with fail)
                refine hK.out _ _ ?_ (fun hH5 => ?_)
                · (try dsimp only)
                  first | go_keep | (refine ⟨?_, ?_⟩ <;> assumption) | (refine ⟨?_, ?_⟩ <;> (rw [World.cell?_setCell_far _ _ _ _ hfar]; assumption))
                clear hK K hH4
                try simp only [Act.put, List.setIfInBounds_toArray, List.set_cons_zero, List.set_cons_succ]
                refine wpAnyH_done (by kernel_rfl) ?_ _
                go_wp2
                go_ret
                have BkF := BookR.push Bk2.out A3 S3.out hx0 hown4 hgrow hat
                have MF : MapIs (w4.setCell ⟨b, 1, none⟩ (.slice (some ⟨gg, 0, none⟩) (T.length + 1) cap)) bm (N + 5) (plTo pl T.length (allD x) (allD x).length) := ((((M2.out.below A3).below ((Below.refl _ _).alloc (Nat.le_refl _) _)).kept hgrow (fun e => (own_ne_map Bk2.out.own M2.out e.symm) rfl)).far (fun e => M2.out.ne c1 e.symm))
                have BF : Below B0 w (w4.setCell ⟨b, 1, none⟩ (.slice (some ⟨gg, 0, none⟩) (T.length + 1) cap)) := Below.setCell (((B2.out.trans (A3.mono (Nat.le_trans hB0w (Nat.le_of_lt z2)))).alloc (Nat.le_trans hB0w (Nat.le_trans (Nat.le_of_lt z2) hz3)) _).grown hgrow (Nat.le_trans hB0w (Nat.le_trans (Nat.le_of_lt z2) (by simp; omega))) (fun j hj => (own_in5 Bk2.out.own hj).1)) Bk2.out.hb _
                exact ⟨.inl ⟨HQ.out, rfl, ⟨_, _, BkF⟩, MF⟩, BF⟩
end Go.Proofs.YtfoekelhcmlagaaDoor

/- Texts put in their places, one by one, are the texts sorted and each kept once. -/
namespace Go.Proofs.YtfoekelhcmlagaaDoor
/-- the model's order of texts is that of their bytes -/
theorem less_iff : ∀ (x y : List UInt8), Op.bytesLess x y = true ↔ x < y
  | [], [] => by simp [Op.bytesLess]
  | _ :: _, [] => by simp [Op.bytesLess]
  | [], _ :: _ => by simp [Op.bytesLess]
  | a :: x, b :: y => by
    rw [Op.bytesLess, List.cons_lt_cons_iff, Bool.or_eq_true, Bool.and_eq_true, less_iff x y, decide_eq_true_eq, beq_iff_eq]
theorem lt_tri (x y : List UInt8) : x < y ∨ x = y ∨ y < x := by
  by_cases h : x < y
  · exact .inl h
  · by_cases h2 : y < x
    · exact .inr (.inr h2)
    · exact .inr (.inl (List.le_antisymm (List.not_lt.1 h2) (List.not_lt.1 h)))
/-- rising, none twice -/
def Rising (L : List (List UInt8)) : Prop := L.Pairwise (· < ·)
theorem rising_eq : ∀ {A B : List (List UInt8)}, Rising A → Rising B → (∀ x, x ∈ A ↔ x ∈ B) → A = B
  | [], [], _, _, _ => rfl
  | [], b :: B, _, _, h => absurd ((h b).2 (by simp)) (by simp)
  | a :: A, [], _, _, h => absurd ((h a).1 (by simp)) (by simp)
  | a :: A, b :: B, ha, hb, h => by
    obtain ⟨ha1, ha2⟩ := List.pairwise_cons.1 ha
    obtain ⟨hb1, hb2⟩ := List.pairwise_cons.1 hb
    have e : a = b := by
      rcases lt_tri a b with c | c | c
      · rcases List.mem_cons.1 ((h a).1 (by simp)) with e | e
        · exact e
        · exact absurd (List.lt_trans (hb1 a e) c) (List.lt_irrefl b)
      · exact c
      · rcases List.mem_cons.1 ((h b).2 (by simp)) with e | e
        · exact e.symm
        · exact absurd (List.lt_trans (ha1 b e) c) (List.lt_irrefl a)
    subst e
    congr 1
    refine rising_eq ha2 hb2 fun x => ?_
    have hx := h x
    rw [List.mem_cons, List.mem_cons] at hx
    constructor
    · intro hm
      rcases hx.1 (.inr hm) with e | e
      · subst e; exact absurd (ha1 x hm) (List.lt_irrefl x)
      · exact e
    · intro hm
      rcases hx.2 (.inr hm) with e | e
      · subst e; exact absurd (hb1 x hm) (List.lt_irrefl x)
      · exact e
/-- a text put among others, in its place -/
def putT : List (List UInt8) → List UInt8 → List (List UInt8)
  | [], t => [t]
  | x :: l, t => if x < t then x :: putT l t else if x = t then x :: l else t :: x :: l
theorem putT_mem (t x : List UInt8) : ∀ L : List (List UInt8), x ∈ putT L t ↔ x ∈ L ∨ x = t
  | [] => by simp [putT]
  | y :: l => by
    rw [putT]
    split
    · rw [List.mem_cons, putT_mem t x l, List.mem_cons]
      constructor
      · rintro (h | h | h) <;> simp [h]
      · rintro ((h | h) | h) <;> simp [h]
    · split
      · rename_i e; subst e; simp
        intro h; exact .inl h
      · simp only [List.mem_cons]
        constructor
        · rintro (h | h) <;> simp [h]
        · rintro (h | h) <;> simp [h]
theorem putT_rising (t : List UInt8) : ∀ {L : List (List UInt8)}, Rising L → Rising (putT L t)
  | [], _ => by simp [putT, Rising]
  | y :: l, h => by
    obtain ⟨h1, h2⟩ := List.pairwise_cons.1 h
    rw [putT]
    split
    · rename_i hlt
      refine List.pairwise_cons.2 ⟨fun z hz => ?_, putT_rising t h2⟩
      rcases (putT_mem t z l).1 hz with e | e
      · exact h1 z e
      · rw [e]; exact hlt
    · rename_i hlt
      split
      · exact h
      · rename_i hne
        have hty : t < y := by
          rcases lt_tri t y with c | c | c
          · exact c
          · exact absurd c.symm hne
          · exact absurd c hlt
        refine List.pairwise_cons.2 ⟨fun z hz => ?_, h⟩
        rcases List.mem_cons.1 hz with e | e
        · rw [e]; exact hty
        · exact List.lt_trans hty (h1 z e)
theorem puts_rising : ∀ (K : List (List UInt8)) {L : List (List UInt8)}, Rising L → Rising (K.foldl putT L)
  | [], _, h => h
  | t :: K, _, h => puts_rising K (putT_rising t h)
theorem puts_mem (x : List UInt8) : ∀ (K L : List (List UInt8)), x ∈ K.foldl putT L ↔ x ∈ L ∨ x ∈ K
  | [], L => by simp
  | t :: K, L => by
    rw [List.foldl_cons, puts_mem x K, putT_mem, List.mem_cons]
    constructor
    · rintro ((h | h) | h) <;> simp [h]
    · rintro (h | h | h) <;> simp [h]
/-- where a text is put, and how -/
theorem putT_at (t : List UInt8) : ∀ (L : List (List UInt8)) (k : Nat), k ≤ L.length → (∀ j (h : j < L.length), j < k → L[j] < t) → (∀ h : k < L.length, ¬ L[k] < t) →
    putT L t = if ∃ h : k < L.length, L[k] = t then L else L.take k ++ t :: L.drop k
  | [], k, hk, _, _ => by
    obtain rfl : k = 0 := by simpa using hk
    rw [if_neg (by rintro ⟨h, _⟩; exact absurd h (by simp))]
    rfl
  | x :: l, 0, hk, _, h2 => by
    have hx : ¬ x < t := h2 (by simp)
    rw [putT, if_neg hx]
    by_cases e : x = t
    · rw [if_pos e, if_pos ⟨by simp, e⟩]
    · rw [if_neg e, if_neg (by rintro ⟨_, h⟩; exact e h)]; rfl
  | x :: l, k + 1, hk, h1, h2 => by
    have hx : x < t := h1 0 (by simp) (by omega)
    rw [putT, if_pos hx, putT_at t l k (by simpa using hk) (fun j h hj => h1 (j + 1) (by simpa using h) (by omega)) (fun h => h2 (by simpa using h))]
    by_cases e : ∃ h : k < l.length, l[k] = t
    · rw [if_pos e, if_pos (by obtain ⟨h, e⟩ := e; exact ⟨by simpa using h, e⟩)]
    · rw [if_neg e, if_neg (by rintro ⟨h, e2⟩; exact e ⟨by simpa using h, e2⟩)]; rfl
theorem le_lt {a b c : List UInt8} (h : ¬ b < a) (h2 : b < c) : a < c := by
  rcases lt_tri a b with e | e | e
  · exact List.lt_trans e h2
  · rw [e]; exact h2
  · exact absurd e h
/-- what stays of rising texts is rising, none twice, and they are the same -/
theorem compact_upto (d : Array (List UInt8)) (hd : ∀ j, j + 1 < d.size → ¬ d[j + 1]! < d[j]!) : ∀ m, m ≤ d.size →
    Rising (Lib.compactUpTo d m) ∧ (∀ x, x ∈ Lib.compactUpTo d m ↔ ∃ j, j < m ∧ d[j]! = x) ∧ (∀ x, x ∈ Lib.compactUpTo d m → ¬ d[m - 1]! < x)
  | 0, _ => by simp [Lib.compactUpTo, Rising]
  | m + 1, hm => by
    obtain ⟨h1, h2, h3⟩ := compact_upto d hd m (by omega)
    rw [Lib.compactUpTo_succ]
    by_cases hk : Lib.keeps d m = true
    · rw [if_pos hk]
      have hlt : ∀ x, x ∈ Lib.compactUpTo d m → x < d[m]! := by
        intro x hx
        obtain ⟨j, hj, -⟩ := (h2 x).1 hx
        have hm0 : ¬ m = 0 := by omega
        have hne : d[m]! ≠ d[m - 1]! := by
          have := hk
          unfold Lib.keeps at this
          rw [decide_eq_true_eq] at this
          exact this.resolve_left hm0
        have hle := hd (m - 1) (by omega)
        rw [show m - 1 + 1 = m by omega] at hle
        refine le_lt (h3 x hx) ?_
        rcases lt_tri d[m - 1]! d[m]! with e | e | e
        · exact e
        · exact absurd e.symm hne
        · exact absurd e hle
      refine ⟨?_, fun x => ?_, fun x hx => ?_⟩
      · unfold Rising
        rw [List.pairwise_append]
        refine ⟨h1, by simp, fun a ha b hb => ?_⟩
        rw [List.mem_singleton] at hb
        rw [hb]; exact hlt a ha
      · rw [List.mem_append, h2, List.mem_singleton]
        constructor
        · rintro (⟨j, hj, e⟩ | e)
          · exact ⟨j, by omega, e⟩
          · exact ⟨m, by omega, e.symm⟩
        · rintro ⟨j, hj, e⟩
          by_cases hjm : j = m
          · subst hjm; exact .inr e.symm
          · exact .inl ⟨j, by omega, e⟩
      · rw [List.mem_append, List.mem_singleton] at hx
        rw [Nat.add_sub_cancel]
        rcases hx with hx | hx
        · exact fun h => List.lt_irrefl x (List.lt_trans (hlt x hx) h)
        · rw [hx]; exact List.lt_irrefl _
    · rw [if_neg hk, List.append_nil]
      have hm0 : ¬ m = 0 := fun e => hk (by subst e; simp [Lib.keeps])
      have he : d[m]! = d[m - 1]! := by
        by_cases e : d[m]! = d[m - 1]!
        · exact e
        · exact absurd (Lib.keeps_pos e) hk
      refine ⟨h1, fun x => ?_, fun x hx => ?_⟩
      · rw [h2]
        constructor
        · rintro ⟨j, hj, e⟩; exact ⟨j, by omega, e⟩
        · rintro ⟨j, hj, e⟩
          by_cases hjm : j = m
          · subst hjm; exact ⟨j - 1, by omega, by rw [← e, he]⟩
          · exact ⟨j, by omega, e⟩
      · rw [Nat.add_sub_cancel, he]; exact h3 x hx
theorem compact_sorted (zs : List (List UInt8)) (h : zs.Pairwise (fun a b => ¬ b < a)) : Rising (Lib.compact zs) ∧ ∀ x, x ∈ Lib.compact zs ↔ x ∈ zs := by
  have hd : ∀ j, j + 1 < zs.toArray.size → ¬ zs.toArray[j + 1]! < zs.toArray[j]! := by
    intro j hj
    have hj2 : j + 1 < zs.length := by simpa using hj
    have := List.pairwise_iff_getElem.1 h j (j + 1) (by omega) hj2 (by omega)
    simpa [getElem!_pos, hj2, show j < zs.length by omega] using this
  obtain ⟨h1, h2, _⟩ := compact_upto zs.toArray hd zs.length (by simp)
  refine ⟨h1, fun x => ?_⟩
  unfold Lib.compact
  rw [h2]
  constructor
  · rintro ⟨j, hj, e⟩
    rw [← e]
    simp [getElem!_pos, hj]
  · intro hx
    obtain ⟨j, hj, e⟩ := List.getElem_of_mem hx
    exact ⟨j, hj, by simp [getElem!_pos, hj, e]⟩
/-- texts sorted and each kept once are those put one by one -/
theorem sorted_puts (K : List (List UInt8)) : Lib.compact (K.mergeSort fun x y => decide (x ≤ y)) = K.foldl putT [] := by
  have hp : (K.mergeSort fun x y => decide (x ≤ y)).Pairwise (fun a b => ¬ b < a) := by
    have := List.pairwise_mergeSort (le := fun x y : List UInt8 => decide (x ≤ y)) (fun a b c h1 h2 => by
      rw [decide_eq_true_eq] at *; exact List.le_trans h1 h2) (fun a b => by
      rw [Bool.or_eq_true, decide_eq_true_eq, decide_eq_true_eq]; exact List.le_total a b) K
    refine this.imp ?_
    intro a b h
    rw [decide_eq_true_eq] at h
    exact List.not_lt.2 h
  obtain ⟨h1, h2⟩ := compact_sorted _ hp
  refine rising_eq h1 (puts_rising K (by simp [Rising])) fun x => ?_
  rw [h2, puts_mem, (List.mergeSort_perm K _).mem_iff]
  simp
end Go.Proofs.YtfoekelhcmlagaaDoor

/- The walk of the specification's l05Apart. -/
namespace Go.Proofs.YtfoekelhcmlagaaDoor
open Go.RowKit

theorem apartB_at {L : List SetL} {x : SetL} (i k : Nat) (hi : i < L.length) (hk : k < (allD x).length) (h : hasB (atS L i) (atL (allD x) k) = true) : apartB L x = false := by
  unfold apartB
  rw [List.all_eq_false]
  refine ⟨L[i], List.getElem_mem hi, ?_⟩
  rw [Bool.not_eq_true, List.all_eq_false]
  refine ⟨(allD x)[k], List.getElem_mem hk, ?_⟩
  have e : atL (allD x) k = (allD x)[k] := by simp [atL, hk]
  have e2 : atS L i = L[i] := by simp [atS, hi]
  rw [← e, ← e2, h]; decide
theorem apartB_all {L : List SetL} {x : SetL} (h : ∀ i, i < L.length → ∀ k, k < (allD x).length → hasB (atS L i) (atL (allD x) k) = false) : apartB L x = true := by
  unfold apartB
  rw [List.all_eq_true]
  intro y hy
  obtain ⟨i, hi, rfl⟩ := List.mem_iff_getElem.1 hy
  rw [List.all_eq_true]
  intro d hd
  obtain ⟨k, hk, rfl⟩ := List.mem_iff_getElem.1 hd
  have e : atL (allD x) k = (allD x)[k] := by simp [atL, hk]
  have e2 : atS L i = L[i] := by simp [atS, hi]
  rw [← e, ← e2, h i hi k hk]; rfl

set_option maxRecDepth 10000 in
set_option maxHeartbeats 4000000 in
theorem specApart_any (v : Value) (L : List SetL) (x : SetL) (u : Value) (B B' : Nat) (w : World) (hv : SliceT w B' v L) (hs : SliceS w B u x.2.length (atL x.2)) (hu : 0 < x.2.length ∨ u = .slice none 0 0) (hn : x.2.length ≤ 1048576) (hL : L.length ≤ 1048576) (hm : ∀ j, j < L.length → 0 < (atS L j).2.length ∧ (atS L j).2.length ≤ 1048576) :
    Calls Tryd.prog 93 #[v, .agg #[.string x.1, u]] w fun e w' => e = .returned (.bool (apartB L x)) ∧ Below w.heap.size w w' := by
  have B0 : Hid (Below w.heap.size w (w.alloc (.cells #[.string x.1, u] 47))) := (Below.refl _ _).alloc (Nat.le_refl _) _
  have KA : Hid (Calls Tryd.prog 146 #[.agg #[.string x.1, u]] (w.alloc (.cells #[.string x.1, u] 47)) fun e w' => ∃ v, e = .returned v ∧ SliceS w' (w.alloc (.cells #[.string x.1, u] 47)).heap.size v (allD x).length (atL (allD x)) ∧ Below (w.alloc (.cells #[.string x.1, u] 47)).heap.size (w.alloc (.cells #[.string x.1, u] 47)) w') :=
    specAll_any x u B _ (hs.below B0.out) hu hn
  have hl : (allD x).length ≤ 1048577 := by unfold allD; rw [List.length_cons]; omega
  have HY : Hid (∀ i k, i < L.length → k < (allD x).length → hasB (atS L i) (atL (allD x) k) = true → apartB L x = false) := fun i k a b c => apartB_at i k a b c
  have HN : Hid ((∀ i, i < L.length → ∀ k, k < (allD x).length → hasB (atS L i) (atL (allD x) k) = false) → apartB L x = true) := apartB_all
  obtain ⟨uu, hv1, hv2, -⟩ := hv
  obtain ⟨p, cap, rfl, hg⟩ := hv1
  have HG : Hid (0 < L.length → ∃ g, p = some ⟨g, 0, none⟩ ∧ g < w.heap.size ∧ ∀ j, j < L.length → w.cell? ⟨g, j * 2, none⟩ = some (.string (atS L j).1) ∧ w.cell? ⟨g, j * 2 + 1, none⟩ = some (uu j)) := fun h0 => by
    obtain ⟨g, e, -, hgw, hc⟩ := hg h0
    exact ⟨g, e, hgw, fun j hj => ⟨(hc j hj 0 (by omega)).1, (hc j hj 1 (by omega)).1⟩⟩
  have KH : Hid (∀ j, j < L.length → ∀ d W, Below w.heap.size w W → Calls Tryd.prog 147 #[.agg #[.string (atS L j).1, uu j], .string d] W fun e w' => e = .returned (.bool (hasB (atS L j) d)) ∧ Below W.heap.size W w') :=
    fun j hj d W hb => specHas_any (atS L j) (uu j) B' d W ((hv2 j hj).below hb) (.inl (hm j hj).1) (hm j hj).2
  clear hs hu hn hg hv2 hm
  generalize apartB L x = R at *
  generalize allD x = D at *
  go_enter Tryd.func93, Tryd.ntmps93
  go_wp2_with fail
  refine KA.out.mono ?_
  rintro e w1 ⟨v, rfl, hs1, hb1⟩
  have B1 : Hid (Below w.heap.size w w1) := B0.out.trans (hb1.mono B0.out.size)
  obtain ⟨q, qc, rfl, hq⟩ := hs1
  have HD : Hid (0 < D.length → ∃ g, q = some ⟨g, 0, none⟩ ∧ g < w1.heap.size ∧ ∀ j, j < D.length → w1.cell? ⟨g, j, none⟩ = some (.string (atL D j))) := fun h0 => by
    obtain ⟨g, e, -, hgw, hc⟩ := hq h0
    exact ⟨g, e, hgw, fun j hj => (hc j hj).1⟩
  clear hb1 hq KA
  go_wp2
  go_loopw [6] (fun i wr => ∃ k : Nat, k ≤ L.length ∧ i = .int .i64 k ∧ Hid (Below w1.heap.size w1 wr) ∧ Hid (∀ i, i < k → ∀ j, j < D.length → hasB (atS L i) (atL D j) = false)) (fun i _ => L.length - (intOf i).toNat)
  case atStart => exact ⟨0, Nat.zero_le _, rfl, Below.refl _ _, fun j hj => absurd hj (by omega)⟩
  case round =>
    obtain ⟨i, hi, rfl, HB, HR⟩ := hrel
    have i0 : (0 : Int) ≤ i := by omega
    by_cases hlt : i < L.length
    · have i1 : (i : Int) < L.length := by omega
      obtain ⟨g, rfl, hgw, hc⟩ := HG.out (by omega)
      obtain ⟨hc0, hc1⟩ := hc i hlt
      have KI : Hid (∀ d W, Below w.heap.size w W → Calls Tryd.prog 147 #[.agg #[.string (atS L i).1, uu i], .string d] W fun e w' => e = .returned (.bool (hasB (atS L i) d)) ∧ Below W.heap.size W w') := KH.out i hlt
      have HYi : Hid (∀ k, k < D.length → hasB (atS L i) (atL D k) = true → R = false) := fun k a b => HY.out i k hlt a b
      have HRi : Hid ((∀ j, j < D.length → hasB (atS L i) (atL D j) = false) → ∀ i', i' < i + 1 → ∀ j, j < D.length → hasB (atS L i') (atL D j) = false) := fun h i' hi' => by
        by_cases e : i' = i
        · subst e; exact h
        · exact HR.out i' (by omega)
      clear hc
      generalize atS L i = y at *
      obtain ⟨yp, ym⟩ := y
      dsimp only at hc0 KI
      generalize uu i = yu at *
      go_wp2
      go_loopw [7] (fun i wr => ∃ k : Nat, k ≤ D.length ∧ i = .int .i64 k ∧ Hid (Below w1.heap.size w1 wr) ∧ Hid (∀ j, j < k → hasB (yp, ym) (atL D j) = false)) (fun i _ => D.length - (intOf i).toNat)
      case atStart => exact ⟨0, Nat.zero_le _, rfl, HB, fun j hj => absurd hj (by omega)⟩
      case round =>
        rename_i wr0 _ _
        obtain ⟨k, hk, rfl, HB2, HR2⟩ := hrel
        have k0 : (0 : Int) ≤ k := by omega
        by_cases hlt2 : k < D.length
        · have k1 : (k : Int) < D.length := by omega
          obtain ⟨g', rfl, hgw', hd⟩ := HD.out (by omega)
          have hgw1 : g < w1.heap.size := Nat.lt_of_lt_of_le hgw B1.out.size
          have c0 : wr.cell? ⟨g, i * 2, none⟩ = some (.string yp) := by rw [(bcell HB2.out).1 _ _ hgw1, (bcell B1.out).1 _ _ hgw]; exact hc0
          have c1 : wr.cell? ⟨g, i * 2 + 1, none⟩ = some yu := by rw [(bcell HB2.out).1 _ _ hgw1, (bcell B1.out).1 _ _ hgw]; exact hc1
          have d0 : wr.cell? ⟨g', k, none⟩ = some (.string (atL D k)) := by rw [(bcell HB2.out).1 _ _ hgw']; exact hd k hlt2
          have hgr : g < wr.heap.size := Nat.lt_of_lt_of_le hgw1 HB2.out.size
          have hgr' : g' < wr.heap.size := Nat.lt_of_lt_of_le hgw' HB2.out.size
          have KC : Hid (∀ W, Below wr.heap.size wr W → Calls Tryd.prog 147 #[.agg #[.string yp, yu], .string (atL D k)] W fun e w' => e = .returned (.bool (hasB (yp, ym) (atL D k))) ∧ Below W.heap.size W w') :=
            fun W hb => KI.out _ W ((B1.out.trans (HB2.out.mono B1.out.size)).trans (hb.mono (Nat.le_trans B1.out.size HB2.out.size)))
          clear hd
          cases hh : hasB (yp, ym) (atL D k) with
          | true =>
            have HQ : Hid (R = false) := HYi.out k hlt2 hh
            rw [hh] at KC
            generalize atL D k = y at *
            go_wp2_with fail
            go_region_held3 (fun w' => w'.cell? ⟨g, i * 2, none⟩ = some (.string yp) ∧ w'.cell? ⟨g, i * 2 + 1, none⟩ = some yu ∧ w'.cell? ⟨g', k, none⟩ = some (.string y)) (go_keep)
              (first | (go_at_call 147; refine (KC.out _ (Below.drew (Below.refl _ _))).mono ?_; rintro e w2 ⟨rfl, hb2⟩; have A2 : Below wr.heap.size wr w2 := (Below.drew (Below.refl _ _)).trans hb2; have l0 : w2.cell? ⟨g, i * 2, none⟩ = some (.string yp) := ((bcell A2).1 _ _ hgr).trans c0; have l1 : w2.cell? ⟨g, i * 2 + 1, none⟩ = some yu := ((bcell A2).1 _ _ hgr).trans c1; have m0 : w2.cell? ⟨g', k, none⟩ = some (.string y) := ((bcell A2).1 _ _ hgr').trans d0))
            all_goals go_wp2
            all_goals go_ret
            all_goals exact ⟨ret_b HQ.out.symm, (B1.out.trans (HB2.out.mono B1.out.size)).trans (A2.mono (Nat.le_trans B1.out.size HB2.out.size))⟩
          | false =>
            have HN2 : Hid (∀ j, j < k + 1 → hasB (yp, ym) (atL D j) = false) := fun j hj => by
              by_cases e : j = k
              · subst e; exact hh
              · exact HR2.out j (by omega)
            rw [hh] at KC
            generalize atL D k = y at *
            go_wp2_with fail
            go_region_held3 (fun w' => w'.cell? ⟨g, i * 2, none⟩ = some (.string yp) ∧ w'.cell? ⟨g, i * 2 + 1, none⟩ = some yu ∧ w'.cell? ⟨g', k, none⟩ = some (.string y)) (go_keep)
              (first | (go_at_call 147; refine (KC.out _ (Below.drew (Below.refl _ _))).mono ?_; rintro e w2 ⟨rfl, hb2⟩; have A2 : Below wr.heap.size wr w2 := (Below.drew (Below.refl _ _)).trans hb2; have l0 : w2.cell? ⟨g, i * 2, none⟩ = some (.string yp) := ((bcell A2).1 _ _ hgr).trans c0; have l1 : w2.cell? ⟨g, i * 2 + 1, none⟩ = some yu := ((bcell A2).1 _ _ hgr).trans c1; have m0 : w2.cell? ⟨g', k, none⟩ = some (.string y) := ((bcell A2).1 _ _ hgr').trans d0))
            all_goals go_wp2
            all_goals go_roundw
            case rel => exact ⟨k + 1, by omega, by go_num, HB2.out.trans (A2.mono HB2.out.size), HN2⟩
            case measure => simp [intOf]; omega
        · have HN3 : Hid (∀ i', i' < i + 1 → ∀ j, j < D.length → hasB (atS L i') (atL D j) = false) := HRi.out (fun j hj => HR2.out j (by omega))
          go_wp2
          go_roundw
          case rel => exact ⟨i + 1, by omega, by go_num, HB2, HN3⟩
          case measure => simp [intOf]; omega
    · have HQ : Hid (R = true) := HN.out (fun i' hi' => HR.out i' (by omega))
      go_wp2
      go_ret
      exact ⟨ret_b HQ.out.symm, B1.out.trans (HB.out.mono B1.out.size)⟩
end Go.Proofs.YtfoekelhcmlagaaDoor

/- A book of sets is to be had just of right sets: plain facts. -/
namespace Go.Proofs.YtfoekelhcmlagaaDoor
open Go.Maps

/-- where the domains of the first k sets stand -/
def plOf (L : List SetL) : Nat → ByteArray → Option Nat
  | 0 => fun _ => none
  | k + 1 => plTo (plOf L k) k (allD (atS L k)) (allD (atS L k)).length
theorem hasB_iff (x : SetL) (d : ByteArray) : hasB x d = true ↔ ∃ j, j < (allD x).length ∧ (d.toList == (atL (allD x) j).toList) = true := by
  constructor
  · intro h
    unfold hasB at h
    rw [List.any_eq_true] at h
    obtain ⟨y, hy, e⟩ := h
    obtain ⟨k, hk, rfl⟩ := List.mem_iff_getElem.1 hy
    refine ⟨k, hk, ?_⟩
    have e1 : atL (allD x) k = (allD x)[k] := by simp [atL, hk]
    rw [e1, beq_iff_eq]
    rw [beq_iff_eq] at e
    exact e.symm
  · rintro ⟨j, hj, e⟩
    refine hasB_at j hj ?_
    rw [beq_iff_eq] at e ⊢
    exact e.symm
theorem plTo_some {pl : ByteArray → Option Nat} {v : Nat} {D : List ByteArray} {k : Nat} {x : ByteArray} : (plTo pl v D k x).isSome = true ↔ (∃ j, j < k ∧ (x.toList == (atL D j).toList) = true) ∨ (pl x).isSome = true := by
  by_cases he : ∃ j, j < k ∧ (x.toList == (atL D j).toList) = true
  · obtain ⟨j, hj, e⟩ := he
    rw [plTo_in pl v D x k j hj e]
    exact ⟨fun _ => .inl ⟨j, hj, e⟩, fun _ => rfl⟩
  · rw [plTo_eq pl v D x k (fun j hj => by
      cases e : (x.toList == (atL D j).toList) with
      | false => rfl
      | true => exact absurd ⟨j, hj, e⟩ he)]
    exact ⟨.inr, fun h => h.resolve_left he⟩
theorem plOf_some (L : List SetL) (x : ByteArray) : ∀ k, (plOf L k x).isSome = true ↔ ∃ i, i < k ∧ hasB (atS L i) x = true
  | 0 => ⟨fun h => (by cases h), fun ⟨_, h, _⟩ => absurd h (by omega)⟩
  | k + 1 => by
    show (plTo (plOf L k) k (allD (atS L k)) (allD (atS L k)).length x).isSome = true ↔ _
    rw [plTo_some, plOf_some L x k]
    constructor
    · rintro (h | ⟨i, hi, h⟩)
      · exact ⟨k, by omega, (hasB_iff _ _).2 h⟩
      · exact ⟨i, by omega, h⟩
    · rintro ⟨i, hi, h⟩
      by_cases e : i = k
      · subst e; exact .inl ((hasB_iff _ _).1 h)
      · exact .inr ⟨i, by omega, h⟩
theorem isSome_false {o : Option Nat} (h : ¬ o.isSome = true) : o = none := by
  cases o with
  | none => rfl
  | some v => exact absurd rfl h
theorem newB_iff (L : List SetL) (k : Nat) (D : List ByteArray) : newB (plOf L k) k D = true ↔ (∀ j, j < D.length → ∀ i, i < k → hasB (atS L i) (atL D j) = false) ∧ ∀ j, j < D.length → ∀ i, i < j → ((atL D j).toList == (atL D i).toList) = false := by
  unfold newB
  rw [decide_eq_true_eq]
  constructor
  · intro h
    have h' : ∀ j, j < D.length → ¬ (plTo (plOf L k) k D j (atL D j)).isSome = true := fun j hj => by rw [h j hj]; simp
    refine ⟨fun j hj i hi => ?_, fun j hj i hi => ?_⟩
    · cases e : hasB (atS L i) (atL D j) with
      | false => rfl
      | true => exact absurd (plTo_some.2 (.inr ((plOf_some L _ k).2 ⟨i, hi, e⟩))) (h' j hj)
    · cases e : ((atL D j).toList == (atL D i).toList) with
      | false => rfl
      | true => exact absurd (plTo_some.2 (.inl ⟨i, hi, e⟩)) (h' j hj)
  · rintro ⟨h1, h2⟩ j hj
    apply isSome_false
    intro h
    rcases plTo_some.1 h with ⟨i, hi, e⟩ | h
    · rw [h2 j hj i hi] at e; cases e
    · obtain ⟨i, hi, e⟩ := (plOf_some L _ k).1 h
      rw [h1 j hj i hi] at e; cases e
theorem apartB_iff (L : List SetL) (x : SetL) (k : Nat) (hk : k ≤ L.length) : apartB (L.take k) x = true ↔ ∀ j, j < (allD x).length → ∀ i, i < k → hasB (atS L i) (atL (allD x) j) = false := by
  have hl : (L.take k).length = k := by rw [List.length_take]; omega
  have ht : ∀ i, i < k → atS (L.take k) i = atS L i := fun i hi => by
    unfold atS
    rw [List.getD_eq_getElem?_getD, List.getD_eq_getElem?_getD, List.getElem?_take_of_lt hi]
  constructor
  · intro h j hj i hi
    cases e : hasB (atS L i) (atL (allD x) j) with
    | false => rfl
    | true =>
      rw [apartB_at i j (by omega) hj (by rw [ht i hi]; exact e)] at h; cases h
  · intro h
    refine apartB_all (fun i hi j hj => ?_)
    rw [hl] at hi
    rw [ht i hi]; exact h j hj i hi
theorem rising_ne {M : List ByteArray} (h : ∀ i, i < M.length → i = 0 ∨ Op.bytesLess (atL M (i - 1)).toList (atL M i).toList = true) : ∀ j i, i < j → j < M.length → Op.bytesLess (atL M i).toList (atL M j).toList = true
  | 0, _, h1, _ => absurd h1 (by omega)
  | j + 1, i, h1, h2 => by
    have hs := (h (j + 1) h2).resolve_left (by omega)
    rw [Nat.add_sub_cancel] at hs
    by_cases e : i = j
    · subst e; exact hs
    · have ih := rising_ne h j i (by omega) (by omega)
      rw [less_iff] at hs ih ⊢
      exact List.lt_trans ih hs
theorem less_ne {a b : ByteArray} (h : Op.bytesLess a.toList b.toList = true) : (b.toList == a.toList) = false := by
  rw [beq_eq_false_iff_ne]
  intro e
  rw [less_iff, e] at h
  exact List.lt_irrefl _ h
theorem atD_succ (p : ByteArray) (M : List ByteArray) (j : Nat) : atL (allD (p, M)) (j + 1) = atL M j := by simp [atL, allD]
/-- a set may come in just if it is right by itself, and apart from those ahead -/
theorem add_right (n : Nat) (f : Nat → ByteArray) (L : List SetL) (k : Nat) (hk : k ≤ L.length) (x : SetL) (hr : rulesB n f = true) : (domsB n f x && newB (plOf L k) k (allD x)) = (setRB n f x && apartB (L.take k) x) := by
  obtain ⟨p, M⟩ := x
  have hd : ∀ s, domR n f s = domB n f s := fun s => by unfold domR; rw [hr]; rfl
  rw [Bool.eq_iff_iff, Bool.and_eq_true, Bool.and_eq_true, newB_iff, apartB_iff L _ k hk]
  constructor
  · rintro ⟨h1, h2, h3⟩
    obtain ⟨d0, d1, d2, d3⟩ := domsB_parts h1
    refine ⟨?_, h2⟩
    unfold setRB
    rw [hd] at d0
    rw [d0, decide_eq_true d1, decide_eq_true d2, decide_eq_true]
    · rfl
    · intro i hi
      have h := d3 i hi
      unfold okN at h
      rw [hd, Bool.and_eq_true] at h
      have hne := h3 (i + 1) (by show i + 1 < M.length + 1; exact Nat.succ_lt_succ hi) 0 (by omega)
      rw [atD_succ] at hne
      unfold okM
      rw [h.1, h.2]
      have e0 : atL (allD (p, M)) 0 = p := rfl
      rw [e0] at hne
      show (true && !((atL M i).toList == p.toList) && true) = true
      rw [hne]; rfl
  · rintro ⟨h1, h2⟩
    unfold setRB at h1
    rw [Bool.and_eq_true, Bool.and_eq_true, Bool.and_eq_true, decide_eq_true_eq, decide_eq_true_eq, decide_eq_true_eq] at h1
    obtain ⟨⟨⟨d0, d1⟩, d2⟩, d3⟩ := h1
    have hm : ∀ i, i < M.length → domB n f (atL M i) = true ∧ ((atL M i).toList == p.toList) = false ∧ (i == 0 || Op.bytesLess (atL M (i - 1)).toList (atL M i).toList) = true := fun i hi => by
      have h := d3 i hi
      unfold okM at h
      rw [Bool.and_eq_true, Bool.and_eq_true] at h
      exact ⟨h.1.1, by have := h.1.2; simpa using this, h.2⟩
    refine ⟨domsB_all (by rw [hd]; exact d0) d1 d2 (fun i hi => ?_), h2, fun j hj i hi => ?_⟩
    · unfold okN
      rw [hd, (hm i hi).1, (hm i hi).2.2]; rfl
    · cases j with
      | zero => omega
      | succ j =>
        have hj' : j < M.length := by have : (allD (p, M)).length = M.length + 1 := rfl; omega
        rw [atD_succ]
        cases i with
        | zero => exact (hm j hj').2.1
        | succ i =>
          rw [atD_succ]
          refine less_ne (rising_ne (fun i hi => ?_) j i (by omega) hj')
          have := (hm i hi).2.2
          rw [Bool.or_eq_true, beq_iff_eq] at this
          exact this
/-- the set at a place comes into the book -/
def okB (n : Nat) (f : Nat → ByteArray) (L : List SetL) (k : Nat) : Bool := (k == 0 || Op.bytesLess (atS L (k - 1)).1.toList (atS L k).1.toList) && addB n f (plOf L k) k (atS L k)
def bookB (n : Nat) (f : Nat → ByteArray) (L : List SetL) : Bool := rulesB n f && decide (∀ k, k < L.length → okB n f L k = true)
theorem bookB_sets (n : Nat) (f : Nat → ByteArray) (L : List SetL) : bookB n f L = setsB n f L := by
  unfold bookB setsB
  cases hr : rulesB n f with
  | false => rfl
  | true =>
    rw [Bool.true_and, Bool.true_and, Bool.eq_iff_iff, Bool.and_eq_true, decide_eq_true_eq, decide_eq_true_eq, decide_eq_true_eq]
    have key : ∀ k, k < L.length → (okB n f L k = true ↔ k ≠ 6 ∧ okS n f L k = true) := fun k hk => by
      have h := add_right n f L k (by omega) (atS L k) hr
      unfold okB okS addB
      rw [Bool.and_assoc, h]
      by_cases h6 : k = 6
      · rw [decide_eq_true h6]; simp [h6]
      · rw [decide_eq_false h6]
        simp only [Bool.not_false, Bool.true_and, Bool.and_eq_true, ne_eq, h6, not_false_eq_true, true_and]
        constructor
        · rintro ⟨a, b, c⟩; exact ⟨⟨b, a⟩, c⟩
        · rintro ⟨⟨b, a⟩, c⟩; exact ⟨a, b, c⟩
    constructor
    · intro h
      refine ⟨?_, fun i hi => ((key i hi).1 (h i hi)).2⟩
      by_cases h6 : 6 < L.length
      · exact absurd rfl ((key 6 h6).1 (h 6 h6)).1
      · omega
    · rintro ⟨h6, h⟩ k hk
      exact (key k hk).2 ⟨by omega, h k hk⟩
end Go.Proofs.YtfoekelhcmlagaaDoor
