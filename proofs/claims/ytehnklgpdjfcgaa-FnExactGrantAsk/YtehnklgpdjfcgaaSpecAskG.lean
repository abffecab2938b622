/- The walks of the specification's l08Ask and GrantAsk. Written by specaskg.py. -/
import Derived.Test.YtehnklgpdjfcgaaAskT
import Derived.Test.YtehnklgpdjfcgaaSpecPut8
import Derived.Test.YtehnklgpdjfcgaaSliceKeep
import Derived.Laws.AppendOwnNone
namespace Go.Proofs.Ytehnklgpdjfcgaa
open Go.RowKit

/-- 'append' of nil, where the walk is to stop behind it -/
theorem append_none_stopG {P : Program} {w : World} {ops : Array Oper} {rest : List Oper} {o : Oper} {a : Act} {Q : Exit → Act → World → Prop} (hgd : o.guard = none) (s x : Operand) (t : TypeId) (ho : o.op = .call { callee := .builtin .append, args := #[s, x], argTypes := #[t, t] }) (base : Nat) (e : TypeId) (i : TypeInfo) (size : Nat) (ht : P.underlying t = some (.slice e)) (hi : P.info? e = some i) (v : Value) (n : Nat) (xs : List Value) (hs : a.eval s = v) (hown : w.ownsRow base e size v n xs) (hx : a.eval x = .slice none 0 0)
    (h : ∀ v' : Value, Hid (v' = v) → wpList P ops Q rest (a.put o.dst v') w) : wpList P ops Q (o :: rest) a w := wpList_append_own_none hgd s x t ho base e i size ht hi v n xs hs hown hx (h v rfl)
/-- a slice stays while one cell of another block is written -/
theorem keep_cell {W : World} {B bo o : Nat} {v x : Value} {L : List Gr} (h : SliceG W B v L) (hne : 0 < L.length → ∃ g, v.ownBlock = some g ∧ g ≠ bo) : SliceG (W.setCell ⟨bo, o, none⟩ x) B v L := by
  obtain ⟨⟨p, cap, rfl, hg⟩, h2⟩ := h
  refine ⟨⟨p, cap, rfl, fun hn => ?_⟩, h2⟩
  obtain ⟨g, rfl, hB, hgw, hc⟩ := hg hn
  obtain ⟨g', e, hn'⟩ := hne hn
  obtain rfl : g = g' := Option.some.inj e
  have hk : (W.setCell ⟨bo, o, none⟩ x).heap[g]? = W.heap[g]? := by
    simp only [World.setCell, Array.getElem?_modify]
    rw [if_neg (Ne.symm hn')]
  refine ⟨g, rfl, hB, by simpa using hgw, fun j hj o' ho => ⟨?_, ?_⟩⟩
  · rw [World.cell?_of_block (a := ⟨g, j * 3 + o', none⟩) hk]; exact (hc j hj o' ho).1
  · rw [World.frozen?_of_block (a := ⟨g, j * 3 + o', none⟩) hk]; exact (hc j hj o' ho).2
set_option maxRecDepth 10000 in
set_option maxHeartbeats 16000000 in
theorem specAskR_any (v : Value) (L : List Gr) (a : Aq) (now : Int) (B : Nat) (w : World) (hs : SliceG w B v L) (hm : mayG L a.tp a.si now = true) :
    Calls Try.prog 58 #[v, aqV a, .int .i64 now] w fun e w' => ∃ v', e = .returned v' ∧ AnsG w' w.heap.size v' (askR L a now) ∧ Below w.heap.size w w' := by
  obtain ⟨hg8, -, -, ht⟩ := mayG_parts hm
  have hL8 := (grantsB_parts hg8).1
  unfold timeG at ht
  simp only [Bool.and_eq_true, decide_eq_true_eq] at ht
  have KI0 : ∀ W, Below w.heap.size w W → Calls Try.prog 68 #[v, .string a.tp, .string a.si, .int .i64 now] W fun e w' => e = .returned (.bool (hereG L a.tp a.si now)) ∧ Below W.heap.size W w' := fun W hb => specLive8_any v L a.tp a.si now B W (hs.below hb) (by omega) (grants_rise hg8)
  have KP0 : ∀ W, Below w.heap.size w W → Calls Try.prog 52 #[v, .string a.tp, .string a.si, .int .i64 now] W fun e w' => ∃ v', e = .returned v' ∧ AnsG w' W.heap.size v' (putR L a.tp a.si now) ∧ Below W.heap.size W w' := fun W hb => specPutR_any v L a.tp a.si now B W (hs.below hb) hg8 ht
  have HR0 : askR L a now =
      if ((a.tp.toList == a.si.toList) || hereG L a.tp a.si now) = true then ⟨L, false, 0⟩
      else if (a.sa || !(httpsB a.si)) = true then noG 11
      else if a.tc = false then noG 10
      else if (!a.re && !a.ye) = true then ⟨L, true, 11⟩
      else ⟨(putR L a.tp a.si now).ar, true, (putR L a.tp a.si now).co⟩ := rfl
  have HSh0 : a.si.size < 8 → httpsB a.si = false := https_short
  have HCu0 : ((a.si.extract 0 8).toList == [104, 116, 116, 112, 115, 58, 47, 47]) = httpsB a.si := https_cut a.si
  clear hm hg8 ht
  generalize askR L a now = Z at *
  generalize putR L a.tp a.si now = Y at *
  generalize hereG L a.tp a.si now = rl at *
  obtain ⟨tp, si, tc, sa, re, ye⟩ := a
  unfold aqV at *
  dsimp only at *
  generalize httpsB si = hp at *
  have HR : Hid (Z =
      if ((tp.toList == si.toList) || rl) = true then ⟨L, false, 0⟩
      else if (sa || !hp) = true then noG 11
      else if tc = false then noG 10
      else if (!re && !ye) = true then ⟨L, true, 11⟩
      else ⟨Y.ar, true, Y.co⟩) := HR0
  have HSh : Hid (si.size < 8 → hp = false) := HSh0
  have HCu : Hid (((si.extract 0 8).toList == [104, 116, 116, 112, 115, 58, 47, 47]) = hp) := HCu0
  have KI : Hid (∀ W, Below w.heap.size w W → Calls Try.prog 68 #[v, .string tp, .string si, .int .i64 now] W fun e w' => e = .returned (.bool rl) ∧ Below W.heap.size W w') := KI0
  have KP : Hid (∀ W, Below w.heap.size w W → Calls Try.prog 52 #[v, .string tp, .string si, .int .i64 now] W fun e w' => ∃ v', e = .returned v' ∧ AnsG w' W.heap.size v' Y ∧ Below W.heap.size W w') := KP0
  clear HR0 HSh0 HCu0 KI0 KP0
  obtain ⟨i0, hi, hy0, hy1, hy2⟩ := info_parts infoGrant
  obtain ⟨W0, hW⟩ : ∃ W0, W0 = (w.alloc (.cells #[.string tp, .string si, .bool tc, .bool sa, .bool re, .bool ye] 42)).alloc (.cells #[.slice none 0 0, .bool false, .int .i64 0] 33) := ⟨_, rfl⟩
  have hW0 : Hid (W0 = (w.alloc (.cells #[.string tp, .string si, .bool tc, .bool sa, .bool re, .bool ye] 42)).alloc (.cells #[.slice none 0 0, .bool false, .int .i64 0] 33)) := hW
  have B0 : Below w.heap.size w W0 := by rw [hW]; exact ((Below.refl _ _).alloc (Nat.le_refl _) _).alloc (by simp) _
  have X0 : BoxG W0 (w.heap.size + 1) := by
    rw [hW]
    have := boxG_made (w.alloc (.cells #[.string tp, .string si, .bool tc, .bool sa, .bool re, .bool ye] 42)) 33
    simpa using this
  have a0 : W0.cell? ⟨w.heap.size, 0, none⟩ = some (.string tp) := by rw [hW]; simp
  have a1 : W0.cell? ⟨w.heap.size, 1, none⟩ = some (.string si) := by rw [hW]; simp
  have a2 : W0.cell? ⟨w.heap.size, 2, none⟩ = some (.bool tc) := by rw [hW]; simp
  have a3 : W0.cell? ⟨w.heap.size, 3, none⟩ = some (.bool sa) := by rw [hW]; simp
  have a4 : W0.cell? ⟨w.heap.size, 4, none⟩ = some (.bool re) := by rw [hW]; simp
  have a5 : W0.cell? ⟨w.heap.size, 5, none⟩ = some (.bool ye) := by rw [hW]; simp
  have z0 : W0.heap.size = w.heap.size + 2 := by rw [hW]; simp
  clear hW
  have O0 : Hid ((W0.alloc (.cells #[] 62)).ownsRow W0.heap.size 62 3 (.slice (some ⟨W0.heap.size, 0, none⟩) 0 0) 0 (grCells [])) := World.ownsRow_made W0 #[] 0 (Nat.le_refl _) (Nat.zero_le _) rfl
  have AA : Below W0.heap.size W0 (W0.alloc (.cells #[] 62)) := (Below.refl _ _).alloc (Nat.le_refl _) _
  -- behind the copy
  have HFin : Hid (∀ (v1 : Value) (w3 : World), w3.ownsRow W0.heap.size 62 3 v1 L.length (grCells L) → Below W0.heap.size W0 w3 → (∃ pq cq, v1 = .slice pq L.length cq) ∧ SliceG w3 (w.heap.size + 2) v1 L ∧ Below w.heap.size w w3 ∧ BoxG w3 (w.heap.size + 1) ∧ w.heap.size + 1 < w3.heap.size ∧ w3.cell? ⟨w.heap.size, 0, none⟩ = some (.string tp) ∧ w3.cell? ⟨w.heap.size, 1, none⟩ = some (.string si) ∧ w3.cell? ⟨w.heap.size, 2, none⟩ = some (.bool tc) ∧ w3.cell? ⟨w.heap.size, 3, none⟩ = some (.bool sa) ∧ w3.cell? ⟨w.heap.size, 4, none⟩ = some (.bool re) ∧ w3.cell? ⟨w.heap.size, 5, none⟩ = some (.bool ye)) := fun v1 w3 ho hb => by
    have hsl := sliceG_of_own ho
    refine ⟨?_, by rw [← z0]; exact hsl, B0.trans (hb.mono (by omega)), X0.below hb, by have := hb.size; omega, ((bcell hb).1 _ _ (by omega)).trans a0, ((bcell hb).1 _ _ (by omega)).trans a1, ((bcell hb).1 _ _ (by omega)).trans a2, ((bcell hb).1 _ _ (by omega)).trans a3, ((bcell hb).1 _ _ (by omega)).trans a4, ((bcell hb).1 _ _ (by omega)).trans a5⟩
    obtain ⟨⟨p, c, e, -⟩, -⟩ := hsl
    exact ⟨p, c, e⟩
  have BW0 : Hid (Below w.heap.size w W0) := B0
  have HAA : Hid (Below W0.heap.size W0 (W0.alloc (.cells #[] 62))) := AA
  obtain ⟨⟨q, cap, rfl, hg⟩, q2, cap2, e2, hcap, hnc⟩ := hs
  injection e2 with e3 _ e4
  subst e3 e4
  clear a0 a1 a2 a3 a4 a5 AA X0
  cases q with
  | none =>
    obtain rfl : cap = 0 := hnc rfl
    have hz : L.length = 0 := by omega
    have HLn : Hid (L = []) := List.length_eq_zero_iff.1 hz
    simp only [hz] at KI KP ⊢
    clear hg hnc hcap hz z0
    go_enter Try.func58, Try.ntmps58
    go_upto_region 1 with fail
    rw [← hW0.out]
    clear hW0
    go_wp2_with (at_builtin; go_must (refine append_none_stopG rfl _ _ 24 rfl W0.heap.size 62 i0 3 Try.underlying24 hi _ _ _ rfl O0.out rfl ?_))
    intro v1 hv1
    obtain ⟨⟨pq, cq, hvs⟩, hs3, hb3, hx3, z3, d0, d1, d2, d3, d4, d5⟩ := HFin.out v1 _ (by rw [HLn.out, hv1.out]; exact O0.out) HAA.out
    generalize hbb : w.heap.size = b at *
    have S3 : Hid (SliceG (W0.alloc (.cells #[] 62)) (b + 2) v1 L) := hs3
    have B3 : Hid (Below b w (W0.alloc (.cells #[] 62))) := hb3
    have X3 : Hid (BoxG (W0.alloc (.cells #[] 62)) (b + 1)) := hx3
    clear hs3 hb3 hx3 O0 HFin HAA hv1 B0 BW0 HLn
    generalize W0.alloc (.cells #[] 62) = w3 at *
    subst hvs
    cases heq : (tp.toList == si.toList) with
    | true =>
      have HRn : Hid (Z = ⟨L, false, 0⟩) := by show _ = _; rw [HR.out, heq]; rfl
      obtain ⟨x0, x1, x2, f0, f1, f2, hlt⟩ := X3.out
      go_wp2
      refine bodyPost_ret (v := .agg #[.slice pq L.length cq, .bool false, .int .i64 0]) (by simp [results, Try.results58, go_sem, x0, x1, x2]) rfl ⟨_, rfl, ⟨_, by rw [HRn.out], by rw [HRn.out, hbb]; exact (S3.out.store3 (by omega)).mono (by omega)⟩, by rw [hbb]; exact B3.out.trans ((store3G_below (Below.refl (b + 1) w3)).mono (by omega))⟩
    | false =>
    go_wp2_with fail
    refine (KI.out _ B3.out).mono ?_
    rintro e w4 ⟨rfl, hb4⟩
    have B4 : Hid (Below b w w4) := B3.out.trans (hb4.mono (by omega))
    have X4 : Hid (BoxG w4 (b + 1)) := X3.out.below hb4
    have S4 : Hid (SliceG w4 (b + 2) (.slice pq L.length cq) L) := S3.out.below hb4
    have z4 : b + 1 < w4.heap.size := Nat.lt_of_lt_of_le z3 hb4.size
    have e0 := ((bcell hb4).1 _ _ (show b < w3.heap.size by omega)).trans d0
    have e1 := ((bcell hb4).1 _ _ (show b < w3.heap.size by omega)).trans d1
    have e2 := ((bcell hb4).1 _ _ (show b < w3.heap.size by omega)).trans d2
    have e3 := ((bcell hb4).1 _ _ (show b < w3.heap.size by omega)).trans d3
    have e4 := ((bcell hb4).1 _ _ (show b < w3.heap.size by omega)).trans d4
    have e5 := ((bcell hb4).1 _ _ (show b < w3.heap.size by omega)).trans d5
    clear hb4 B3 X3 S3 KI d0 d1 d2 d3 d4 d5
    cases rl with
    | true =>
      have HRn : Hid (Z = ⟨L, false, 0⟩) := by show _ = _; rw [HR.out, heq]; rfl
      obtain ⟨x0, x1, x2, f0, f1, f2, hlt⟩ := X4.out
      go_wp2
      refine bodyPost_ret (v := .agg #[.slice pq L.length cq, .bool false, .int .i64 0]) (by simp [results, Try.results58, go_sem, x0, x1, x2]) rfl ⟨_, rfl, ⟨_, by rw [HRn.out], by rw [HRn.out, hbb]; exact (S4.out.store3 (by omega)).mono (by omega)⟩, by rw [hbb]; exact B4.out.trans ((store3G_below (Below.refl (b + 1) w4)).mono (by omega))⟩
    | false =>
    have HR1 : Hid (Z = if (sa || !hp) = true then noG 11 else if tc = false then noG 10 else if (!re && !ye) = true then ⟨L, true, 11⟩ else ⟨Y.ar, true, Y.co⟩) := by show _ = _; rw [HR.out, heq]; rfl
    clear HR
    cases sa with
    | true =>
      have HRn : Hid (Z = noG 11) := HR1.out
      obtain ⟨x0, x1, x2, f0, f1, f2, hlt⟩ := X4.out
      go_wp2
      refine bodyPost_ret (v := .agg #[.slice none 0 0, .bool false, .int .i64 11]) (by simp [results, Try.results58, go_sem, x0, x1, x2]) rfl ⟨_, rfl, ⟨_, by rw [HRn.out]; rfl, by rw [HRn.out, hbb]; exact sliceG_none _ _⟩, by rw [hbb]; exact B4.out.trans ((store3G_below (Below.refl (b + 1) w4)).mono (by omega))⟩
    | false =>
    by_cases h8 : si.size < 8
    case pos =>
      have q8 : decide ((si.size : Int) < 8) = true := by rw [decide_eq_true_iff]; omega
      have hp0 : hp = false := HSh.out h8
      subst hp0
      have HRn : Hid (Z = noG 11) := HR1.out
      obtain ⟨x0, x1, x2, f0, f1, f2, hlt⟩ := X4.out
      go_wp2
      refine bodyPost_ret (v := .agg #[.slice none 0 0, .bool false, .int .i64 11]) (by simp [results, Try.results58, go_sem, x0, x1, x2]) rfl ⟨_, rfl, ⟨_, by rw [HRn.out]; rfl, by rw [HRn.out, hbb]; exact sliceG_none _ _⟩, by rw [hbb]; exact B4.out.trans ((store3G_below (Below.refl (b + 1) w4)).mono (by omega))⟩
    have q8 : decide ((si.size : Int) < 8) = false := by rw [decide_eq_false_iff_not]; omega
    have q9 : (8 : Int) ≤ (si.size : Int) := by omega
    have hcut := HCu.out
    cases hp with
    | false =>
      have hcut2 : ((si.extract 0 8).toList != [104, 116, 116, 112, 115, 58, 47, 47]) = true := by show (!_) = true; rw [hcut]; rfl
      have HRn : Hid (Z = noG 11) := HR1.out
      obtain ⟨x0, x1, x2, f0, f1, f2, hlt⟩ := X4.out
      go_wp2
      refine bodyPost_ret (v := .agg #[.slice none 0 0, .bool false, .int .i64 11]) (by simp [results, Try.results58, go_sem, x0, x1, x2]) rfl ⟨_, rfl, ⟨_, by rw [HRn.out]; rfl, by rw [HRn.out, hbb]; exact sliceG_none _ _⟩, by rw [hbb]; exact B4.out.trans ((store3G_below (Below.refl (b + 1) w4)).mono (by omega))⟩
    | true =>
    have hcut2 : ((si.extract 0 8).toList != [104, 116, 116, 112, 115, 58, 47, 47]) = false := by show (!_) = false; rw [hcut]; rfl
    clear HSh HCu
    cases tc with
    | false =>
      have HRn : Hid (Z = noG 10) := HR1.out
      obtain ⟨x0, x1, x2, f0, f1, f2, hlt⟩ := X4.out
      go_wp2
      refine bodyPost_ret (v := .agg #[.slice none 0 0, .bool false, .int .i64 10]) (by simp [results, Try.results58, go_sem, x0, x1, x2]) rfl ⟨_, rfl, ⟨_, by rw [HRn.out]; rfl, by rw [HRn.out, hbb]; exact sliceG_none _ _⟩, by rw [hbb]; exact B4.out.trans ((store3G_below (Below.refl (b + 1) w4)).mono (by omega))⟩
    | true =>
    have HR2 : Hid (Z = if (!re && !ye) = true then ⟨L, true, 11⟩ else ⟨Y.ar, true, Y.co⟩) := HR1.out
    clear HR1
    cases re with
    | false =>
      cases ye with
      | false =>
        have HRn : Hid (Z = ⟨L, true, 11⟩) := HR2.out
        obtain ⟨x0, x1, x2, f0, f1, f2, hlt⟩ := X4.out
        go_wp2
        refine bodyPost_ret (v := .agg #[.slice pq L.length cq, .bool true, .int .i64 11]) (by simp [results, Try.results58, go_sem, x0, x1, x2]) rfl ⟨_, rfl, ⟨_, by rw [HRn.out], by rw [HRn.out, hbb]; exact (S4.out.store3 (by omega)).mono (by omega)⟩, by rw [hbb]; exact B4.out.trans ((store3G_below (Below.refl (b + 1) w4)).mono (by omega))⟩
      | true =>
        have HR3 : Hid (Z = ⟨Y.ar, true, Y.co⟩) := by show _ = _; rw [HR2.out]; rfl
        go_wp2_with fail
        refine (KP.out _ B4.out).mono ?_
        rintro e w5 ⟨v5, rfl, ⟨u5, rfl, hs5⟩, hb5⟩
        obtain ⟨pu, cu, hu5⟩ : ∃ pu cu, u5 = .slice pu Y.ar.length cu := by obtain ⟨⟨p, c, e, -⟩, -⟩ := hs5; exact ⟨p, c, e⟩
        subst hu5
        obtain ⟨W6, hU⟩ : ∃ W6, W6 = w5.alloc (.cells #[.slice pu Y.ar.length cu, .bool Y.us, .int .i64 Y.co] 33) := ⟨_, rfl⟩
        have hW6 : Hid (W6 = w5.alloc (.cells #[.slice pu Y.ar.length cu, .bool Y.us, .int .i64 Y.co] 33)) := hU
        have A6 : Below w5.heap.size w5 W6 := by rw [hU]; exact (Below.refl _ _).alloc (Nat.le_refl _) _
        have S6 : Hid (SliceG W6 w4.heap.size (.slice pu Y.ar.length cu) Y.ar) := hs5.below A6
        have X6 : Hid (BoxG W6 (b + 1)) := (X4.out.below hb5).below A6
        have z5 : b + 1 < w5.heap.size := Nat.lt_of_lt_of_le z4 hb5.size
        have B6 : Hid (Below b w W6) := (B4.out.trans (hb5.mono (by omega))).trans (A6.mono (by omega))
        have o0 : W6.cell? ⟨w5.heap.size, 0, none⟩ = some (.slice pu Y.ar.length cu) := by rw [hU]; simp
        have o1 : W6.cell? ⟨w5.heap.size, 1, none⟩ = some (.bool Y.us) := by rw [hU]; simp
        have o2 : W6.cell? ⟨w5.heap.size, 2, none⟩ = some (.int .i64 Y.co) := by rw [hU]; simp
        have o3 : W6.frozen? ⟨w5.heap.size, 1, none⟩ = false := by rw [hU]; simp
        have z45 : w4.heap.size ≤ w5.heap.size := hb5.size
        have HPl : Hid (0 < Y.ar.length → ∃ g, (Value.slice pu Y.ar.length cu).ownBlock = some g ∧ g ≠ w5.heap.size) := fun h => by
          obtain ⟨g, e, -, h2⟩ := hs5.1.place h
          exact ⟨g, e, by omega⟩
        clear hU A6 hs5 hb5 X4 B4 S4 HR2 KP e0 e1 e2 e3 e4 e5
        go_upto_region 11 with fail
        rw [← hW6.out]
        clear hW6
        generalize hbo : w5.heap.size = bo at *
        have hne : ¬ b + 1 = bo := by omega
        have hne2 : ¬ bo = b + 1 := by omega
        have HBF : Hid (Below b w (W6.setCell ⟨bo, 1, none⟩ (.bool true))) := B6.out.setCell (show b ≤ bo by omega) _
        have HSF : Hid (SliceG (W6.setCell ⟨bo, 1, none⟩ (.bool true)) w4.heap.size (.slice pu Y.ar.length cu) Y.ar) := keep_cell S6.out HPl.out
        have HXF : Hid (BoxG (W6.setCell ⟨bo, 1, none⟩ (.bool true)) (b + 1)) := X6.out.of_block (by simp only [World.setCell, Array.getElem?_modify]; rw [if_neg hne2]) (by simp)
        clear S6 X6 B6
        obtain ⟨x0, x1, x2, f0, f1, f2, hlt⟩ := HXF.out
        go_wp2
        refine bodyPost_ret (v := .agg #[.slice pu Y.ar.length cu, .bool true, .int .i64 Y.co]) (by simp [results, Try.results58, go_sem, x0, x1, x2]) rfl ⟨_, rfl, ⟨_, by rw [HR3.out], by rw [HR3.out, hbb]; exact (HSF.out.store3 (by omega)).mono (by omega)⟩, by rw [hbb]; exact HBF.out.trans ((store3G_below (Below.refl (b + 1) _)).mono (by omega))⟩
    | true =>
      have HR3 : Hid (Z = ⟨Y.ar, true, Y.co⟩) := by show _ = _; rw [HR2.out]; rfl
      go_wp2_with fail
      refine (KP.out _ B4.out).mono ?_
      rintro e w5 ⟨v5, rfl, ⟨u5, rfl, hs5⟩, hb5⟩
      obtain ⟨pu, cu, hu5⟩ : ∃ pu cu, u5 = .slice pu Y.ar.length cu := by obtain ⟨⟨p, c, e, -⟩, -⟩ := hs5; exact ⟨p, c, e⟩
      subst hu5
      obtain ⟨W6, hU⟩ : ∃ W6, W6 = w5.alloc (.cells #[.slice pu Y.ar.length cu, .bool Y.us, .int .i64 Y.co] 33) := ⟨_, rfl⟩
      have hW6 : Hid (W6 = w5.alloc (.cells #[.slice pu Y.ar.length cu, .bool Y.us, .int .i64 Y.co] 33)) := hU
      have A6 : Below w5.heap.size w5 W6 := by rw [hU]; exact (Below.refl _ _).alloc (Nat.le_refl _) _
      have S6 : Hid (SliceG W6 w4.heap.size (.slice pu Y.ar.length cu) Y.ar) := hs5.below A6
      have X6 : Hid (BoxG W6 (b + 1)) := (X4.out.below hb5).below A6
      have z5 : b + 1 < w5.heap.size := Nat.lt_of_lt_of_le z4 hb5.size
      have B6 : Hid (Below b w W6) := (B4.out.trans (hb5.mono (by omega))).trans (A6.mono (by omega))
      have o0 : W6.cell? ⟨w5.heap.size, 0, none⟩ = some (.slice pu Y.ar.length cu) := by rw [hU]; simp
      have o1 : W6.cell? ⟨w5.heap.size, 1, none⟩ = some (.bool Y.us) := by rw [hU]; simp
      have o2 : W6.cell? ⟨w5.heap.size, 2, none⟩ = some (.int .i64 Y.co) := by rw [hU]; simp
      have o3 : W6.frozen? ⟨w5.heap.size, 1, none⟩ = false := by rw [hU]; simp
      have z45 : w4.heap.size ≤ w5.heap.size := hb5.size
      have HPl : Hid (0 < Y.ar.length → ∃ g, (Value.slice pu Y.ar.length cu).ownBlock = some g ∧ g ≠ w5.heap.size) := fun h => by
        obtain ⟨g, e, -, h2⟩ := hs5.1.place h
        exact ⟨g, e, by omega⟩
      clear hU A6 hs5 hb5 X4 B4 S4 HR2 KP e0 e1 e2 e3 e4 e5
      go_upto_region 11 with fail
      rw [← hW6.out]
      clear hW6
      generalize hbo : w5.heap.size = bo at *
      have hne : ¬ b + 1 = bo := by omega
      have hne2 : ¬ bo = b + 1 := by omega
      have HBF : Hid (Below b w (W6.setCell ⟨bo, 1, none⟩ (.bool true))) := B6.out.setCell (show b ≤ bo by omega) _
      have HSF : Hid (SliceG (W6.setCell ⟨bo, 1, none⟩ (.bool true)) w4.heap.size (.slice pu Y.ar.length cu) Y.ar) := keep_cell S6.out HPl.out
      have HXF : Hid (BoxG (W6.setCell ⟨bo, 1, none⟩ (.bool true)) (b + 1)) := X6.out.of_block (by simp only [World.setCell, Array.getElem?_modify]; rw [if_neg hne2]) (by simp)
      clear S6 X6 B6
      obtain ⟨x0, x1, x2, f0, f1, f2, hlt⟩ := HXF.out
      go_wp2
      refine bodyPost_ret (v := .agg #[.slice pu Y.ar.length cu, .bool true, .int .i64 Y.co]) (by simp [results, Try.results58, go_sem, x0, x1, x2]) rfl ⟨_, rfl, ⟨_, by rw [HR3.out], by rw [HR3.out, hbb]; exact (HSF.out.store3 (by omega)).mono (by omega)⟩, by rw [hbb]; exact HBF.out.trans ((store3G_below (Below.refl (b + 1) _)).mono (by omega))⟩
  | some x =>
    have HN : Hid (∀ W, Below w.heap.size w W → ∀ j u, (grCells L)[j]? = some u → W.cell? (x.add j) = some u) := fun W hb => by
      by_cases h0 : 0 < L.length
      · obtain ⟨g, e, -, hgw, hc⟩ := hg h0
        injection e with e
        subst e
        have := grCells_part (fun j hj o ho => ((bcell hb).1 _ _ hgw).trans (hc j hj o ho).1) 0 L (fun j hj => ⟨by rw [Nat.zero_add], by omega⟩)
        simpa using this
      · have hLn : L = [] := List.length_eq_zero_iff.1 (by omega)
        subst hLn
        intro j u h
        cases h
    have hl1 : (grCells L).length = L.length * 3 := grCells_len L
    have o1 : ∀ v ∈ grCells L, v.oneCell' = true := one_grCells L
    have BA : Hid (Below w.heap.size w (W0.alloc (.cells #[] 62))) := B0.trans (HAA.out.mono (by omega))
    have HOw : Hid (∀ (v1 : Value) (w3 : World), w3.ownsRow W0.heap.size 62 3 v1 (0 + L.length) (grCells [] ++ grCells L) → w3.ownsRow W0.heap.size 62 3 v1 L.length (grCells L)) := fun v1 w3 h => by simpa [grCells] using h
    clear hg hnc B0
    generalize hC : grCells L = C at *
    clear hC z0
    go_enter Try.func58, Try.ntmps58
    go_upto_region 1 with fail
    rw [← hW0.out]
    clear hW0
    go_wp2_with (at_builtin; go_must (refine wpList_append_own _ rfl _ _ 24 rfl W0.heap.size 62 i0 (.agg #[.string ⟨#[]⟩, .string ⟨#[]⟩, .int .i64 0]) 3 40 Try.underlying24 hi hy0 hy1 hy2 rfl (by decide) _ _ _ rfl O0.out x L.length cap C rfl hl1 (HN.out _ BA.out) o1 (by unfold maxLen; omega) (by omega) (by simp) ?_))
    intro v1 w3 ho1 hg1 hn1
    have A3 : Below W0.heap.size W0 w3 := HAA.out.grown hg1 (by simp) (fun j hj => own_base O0.out j hj)
    obtain ⟨⟨pq, cq, hvs⟩, hs3, hb3, hx3, z3, d0, d1, d2, d3, d4, d5⟩ := HFin.out v1 w3 (HOw.out _ _ (by first | exact ho1 | (rw [Nat.zero_add]; exact ho1))) A3
    generalize hbb : w.heap.size = b at *
    have S3 : Hid (SliceG w3 (b + 2) v1 L) := hs3
    have B3 : Hid (Below b w w3) := hb3
    have X3 : Hid (BoxG w3 (b + 1)) := hx3
    clear hs3 hb3 hx3 ho1 hg1 hn1 A3 O0 HFin HAA HOw HN hl1 o1 BA BW0
    subst hvs
    cases heq : (tp.toList == si.toList) with
    | true =>
      have HRn : Hid (Z = ⟨L, false, 0⟩) := by show _ = _; rw [HR.out, heq]; rfl
      obtain ⟨x0, x1, x2, f0, f1, f2, hlt⟩ := X3.out
      go_wp2
      refine bodyPost_ret (v := .agg #[.slice pq L.length cq, .bool false, .int .i64 0]) (by simp [results, Try.results58, go_sem, x0, x1, x2]) rfl ⟨_, rfl, ⟨_, by rw [HRn.out], by rw [HRn.out, hbb]; exact (S3.out.store3 (by omega)).mono (by omega)⟩, by rw [hbb]; exact B3.out.trans ((store3G_below (Below.refl (b + 1) w3)).mono (by omega))⟩
    | false =>
    go_wp2_with fail
    refine (KI.out _ B3.out).mono ?_
    rintro e w4 ⟨rfl, hb4⟩
    have B4 : Hid (Below b w w4) := B3.out.trans (hb4.mono (by omega))
    have X4 : Hid (BoxG w4 (b + 1)) := X3.out.below hb4
    have S4 : Hid (SliceG w4 (b + 2) (.slice pq L.length cq) L) := S3.out.below hb4
    have z4 : b + 1 < w4.heap.size := Nat.lt_of_lt_of_le z3 hb4.size
    have e0 := ((bcell hb4).1 _ _ (show b < w3.heap.size by omega)).trans d0
    have e1 := ((bcell hb4).1 _ _ (show b < w3.heap.size by omega)).trans d1
    have e2 := ((bcell hb4).1 _ _ (show b < w3.heap.size by omega)).trans d2
    have e3 := ((bcell hb4).1 _ _ (show b < w3.heap.size by omega)).trans d3
    have e4 := ((bcell hb4).1 _ _ (show b < w3.heap.size by omega)).trans d4
    have e5 := ((bcell hb4).1 _ _ (show b < w3.heap.size by omega)).trans d5
    clear hb4 B3 X3 S3 KI d0 d1 d2 d3 d4 d5
    cases rl with
    | true =>
      have HRn : Hid (Z = ⟨L, false, 0⟩) := by show _ = _; rw [HR.out, heq]; rfl
      obtain ⟨x0, x1, x2, f0, f1, f2, hlt⟩ := X4.out
      go_wp2
      refine bodyPost_ret (v := .agg #[.slice pq L.length cq, .bool false, .int .i64 0]) (by simp [results, Try.results58, go_sem, x0, x1, x2]) rfl ⟨_, rfl, ⟨_, by rw [HRn.out], by rw [HRn.out, hbb]; exact (S4.out.store3 (by omega)).mono (by omega)⟩, by rw [hbb]; exact B4.out.trans ((store3G_below (Below.refl (b + 1) w4)).mono (by omega))⟩
    | false =>
    have HR1 : Hid (Z = if (sa || !hp) = true then noG 11 else if tc = false then noG 10 else if (!re && !ye) = true then ⟨L, true, 11⟩ else ⟨Y.ar, true, Y.co⟩) := by show _ = _; rw [HR.out, heq]; rfl
    clear HR
    cases sa with
    | true =>
      have HRn : Hid (Z = noG 11) := HR1.out
      obtain ⟨x0, x1, x2, f0, f1, f2, hlt⟩ := X4.out
      go_wp2
      refine bodyPost_ret (v := .agg #[.slice none 0 0, .bool false, .int .i64 11]) (by simp [results, Try.results58, go_sem, x0, x1, x2]) rfl ⟨_, rfl, ⟨_, by rw [HRn.out]; rfl, by rw [HRn.out, hbb]; exact sliceG_none _ _⟩, by rw [hbb]; exact B4.out.trans ((store3G_below (Below.refl (b + 1) w4)).mono (by omega))⟩
    | false =>
    by_cases h8 : si.size < 8
    case pos =>
      have q8 : decide ((si.size : Int) < 8) = true := by rw [decide_eq_true_iff]; omega
      have hp0 : hp = false := HSh.out h8
      subst hp0
      have HRn : Hid (Z = noG 11) := HR1.out
      obtain ⟨x0, x1, x2, f0, f1, f2, hlt⟩ := X4.out
      go_wp2
      refine bodyPost_ret (v := .agg #[.slice none 0 0, .bool false, .int .i64 11]) (by simp [results, Try.results58, go_sem, x0, x1, x2]) rfl ⟨_, rfl, ⟨_, by rw [HRn.out]; rfl, by rw [HRn.out, hbb]; exact sliceG_none _ _⟩, by rw [hbb]; exact B4.out.trans ((store3G_below (Below.refl (b + 1) w4)).mono (by omega))⟩
    have q8 : decide ((si.size : Int) < 8) = false := by rw [decide_eq_false_iff_not]; omega
    have q9 : (8 : Int) ≤ (si.size : Int) := by omega
    have hcut := HCu.out
    cases hp with
    | false =>
      have hcut2 : ((si.extract 0 8).toList != [104, 116, 116, 112, 115, 58, 47, 47]) = true := by show (!_) = true; rw [hcut]; rfl
      have HRn : Hid (Z = noG 11) := HR1.out
      obtain ⟨x0, x1, x2, f0, f1, f2, hlt⟩ := X4.out
      go_wp2
      refine bodyPost_ret (v := .agg #[.slice none 0 0, .bool false, .int .i64 11]) (by simp [results, Try.results58, go_sem, x0, x1, x2]) rfl ⟨_, rfl, ⟨_, by rw [HRn.out]; rfl, by rw [HRn.out, hbb]; exact sliceG_none _ _⟩, by rw [hbb]; exact B4.out.trans ((store3G_below (Below.refl (b + 1) w4)).mono (by omega))⟩
    | true =>
    have hcut2 : ((si.extract 0 8).toList != [104, 116, 116, 112, 115, 58, 47, 47]) = false := by show (!_) = false; rw [hcut]; rfl
    clear HSh HCu
    cases tc with
    | false =>
      have HRn : Hid (Z = noG 10) := HR1.out
      obtain ⟨x0, x1, x2, f0, f1, f2, hlt⟩ := X4.out
      go_wp2
      refine bodyPost_ret (v := .agg #[.slice none 0 0, .bool false, .int .i64 10]) (by simp [results, Try.results58, go_sem, x0, x1, x2]) rfl ⟨_, rfl, ⟨_, by rw [HRn.out]; rfl, by rw [HRn.out, hbb]; exact sliceG_none _ _⟩, by rw [hbb]; exact B4.out.trans ((store3G_below (Below.refl (b + 1) w4)).mono (by omega))⟩
    | true =>
    have HR2 : Hid (Z = if (!re && !ye) = true then ⟨L, true, 11⟩ else ⟨Y.ar, true, Y.co⟩) := HR1.out
    clear HR1
    cases re with
    | false =>
      cases ye with
      | false =>
        have HRn : Hid (Z = ⟨L, true, 11⟩) := HR2.out
        obtain ⟨x0, x1, x2, f0, f1, f2, hlt⟩ := X4.out
        go_wp2
        refine bodyPost_ret (v := .agg #[.slice pq L.length cq, .bool true, .int .i64 11]) (by simp [results, Try.results58, go_sem, x0, x1, x2]) rfl ⟨_, rfl, ⟨_, by rw [HRn.out], by rw [HRn.out, hbb]; exact (S4.out.store3 (by omega)).mono (by omega)⟩, by rw [hbb]; exact B4.out.trans ((store3G_below (Below.refl (b + 1) w4)).mono (by omega))⟩
      | true =>
        have HR3 : Hid (Z = ⟨Y.ar, true, Y.co⟩) := by show _ = _; rw [HR2.out]; rfl
        go_wp2_with fail
        refine (KP.out _ B4.out).mono ?_
        rintro e w5 ⟨v5, rfl, ⟨u5, rfl, hs5⟩, hb5⟩
        obtain ⟨pu, cu, hu5⟩ : ∃ pu cu, u5 = .slice pu Y.ar.length cu := by obtain ⟨⟨p, c, e, -⟩, -⟩ := hs5; exact ⟨p, c, e⟩
        subst hu5
        obtain ⟨W6, hU⟩ : ∃ W6, W6 = w5.alloc (.cells #[.slice pu Y.ar.length cu, .bool Y.us, .int .i64 Y.co] 33) := ⟨_, rfl⟩
        have hW6 : Hid (W6 = w5.alloc (.cells #[.slice pu Y.ar.length cu, .bool Y.us, .int .i64 Y.co] 33)) := hU
        have A6 : Below w5.heap.size w5 W6 := by rw [hU]; exact (Below.refl _ _).alloc (Nat.le_refl _) _
        have S6 : Hid (SliceG W6 w4.heap.size (.slice pu Y.ar.length cu) Y.ar) := hs5.below A6
        have X6 : Hid (BoxG W6 (b + 1)) := (X4.out.below hb5).below A6
        have z5 : b + 1 < w5.heap.size := Nat.lt_of_lt_of_le z4 hb5.size
        have B6 : Hid (Below b w W6) := (B4.out.trans (hb5.mono (by omega))).trans (A6.mono (by omega))
        have o0 : W6.cell? ⟨w5.heap.size, 0, none⟩ = some (.slice pu Y.ar.length cu) := by rw [hU]; simp
        have o1 : W6.cell? ⟨w5.heap.size, 1, none⟩ = some (.bool Y.us) := by rw [hU]; simp
        have o2 : W6.cell? ⟨w5.heap.size, 2, none⟩ = some (.int .i64 Y.co) := by rw [hU]; simp
        have o3 : W6.frozen? ⟨w5.heap.size, 1, none⟩ = false := by rw [hU]; simp
        have z45 : w4.heap.size ≤ w5.heap.size := hb5.size
        have HPl : Hid (0 < Y.ar.length → ∃ g, (Value.slice pu Y.ar.length cu).ownBlock = some g ∧ g ≠ w5.heap.size) := fun h => by
          obtain ⟨g, e, -, h2⟩ := hs5.1.place h
          exact ⟨g, e, by omega⟩
        clear hU A6 hs5 hb5 X4 B4 S4 HR2 KP e0 e1 e2 e3 e4 e5
        go_upto_region 11 with fail
        rw [← hW6.out]
        clear hW6
        generalize hbo : w5.heap.size = bo at *
        have hne : ¬ b + 1 = bo := by omega
        have hne2 : ¬ bo = b + 1 := by omega
        have HBF : Hid (Below b w (W6.setCell ⟨bo, 1, none⟩ (.bool true))) := B6.out.setCell (show b ≤ bo by omega) _
        have HSF : Hid (SliceG (W6.setCell ⟨bo, 1, none⟩ (.bool true)) w4.heap.size (.slice pu Y.ar.length cu) Y.ar) := keep_cell S6.out HPl.out
        have HXF : Hid (BoxG (W6.setCell ⟨bo, 1, none⟩ (.bool true)) (b + 1)) := X6.out.of_block (by simp only [World.setCell, Array.getElem?_modify]; rw [if_neg hne2]) (by simp)
        clear S6 X6 B6
        obtain ⟨x0, x1, x2, f0, f1, f2, hlt⟩ := HXF.out
        go_wp2
        refine bodyPost_ret (v := .agg #[.slice pu Y.ar.length cu, .bool true, .int .i64 Y.co]) (by simp [results, Try.results58, go_sem, x0, x1, x2]) rfl ⟨_, rfl, ⟨_, by rw [HR3.out], by rw [HR3.out, hbb]; exact (HSF.out.store3 (by omega)).mono (by omega)⟩, by rw [hbb]; exact HBF.out.trans ((store3G_below (Below.refl (b + 1) _)).mono (by omega))⟩
    | true =>
      have HR3 : Hid (Z = ⟨Y.ar, true, Y.co⟩) := by show _ = _; rw [HR2.out]; rfl
      go_wp2_with fail
      refine (KP.out _ B4.out).mono ?_
      rintro e w5 ⟨v5, rfl, ⟨u5, rfl, hs5⟩, hb5⟩
      obtain ⟨pu, cu, hu5⟩ : ∃ pu cu, u5 = .slice pu Y.ar.length cu := by obtain ⟨⟨p, c, e, -⟩, -⟩ := hs5; exact ⟨p, c, e⟩
      subst hu5
      obtain ⟨W6, hU⟩ : ∃ W6, W6 = w5.alloc (.cells #[.slice pu Y.ar.length cu, .bool Y.us, .int .i64 Y.co] 33) := ⟨_, rfl⟩
      have hW6 : Hid (W6 = w5.alloc (.cells #[.slice pu Y.ar.length cu, .bool Y.us, .int .i64 Y.co] 33)) := hU
      have A6 : Below w5.heap.size w5 W6 := by rw [hU]; exact (Below.refl _ _).alloc (Nat.le_refl _) _
      have S6 : Hid (SliceG W6 w4.heap.size (.slice pu Y.ar.length cu) Y.ar) := hs5.below A6
      have X6 : Hid (BoxG W6 (b + 1)) := (X4.out.below hb5).below A6
      have z5 : b + 1 < w5.heap.size := Nat.lt_of_lt_of_le z4 hb5.size
      have B6 : Hid (Below b w W6) := (B4.out.trans (hb5.mono (by omega))).trans (A6.mono (by omega))
      have o0 : W6.cell? ⟨w5.heap.size, 0, none⟩ = some (.slice pu Y.ar.length cu) := by rw [hU]; simp
      have o1 : W6.cell? ⟨w5.heap.size, 1, none⟩ = some (.bool Y.us) := by rw [hU]; simp
      have o2 : W6.cell? ⟨w5.heap.size, 2, none⟩ = some (.int .i64 Y.co) := by rw [hU]; simp
      have o3 : W6.frozen? ⟨w5.heap.size, 1, none⟩ = false := by rw [hU]; simp
      have z45 : w4.heap.size ≤ w5.heap.size := hb5.size
      have HPl : Hid (0 < Y.ar.length → ∃ g, (Value.slice pu Y.ar.length cu).ownBlock = some g ∧ g ≠ w5.heap.size) := fun h => by
        obtain ⟨g, e, -, h2⟩ := hs5.1.place h
        exact ⟨g, e, by omega⟩
      clear hU A6 hs5 hb5 X4 B4 S4 HR2 KP e0 e1 e2 e3 e4 e5
      go_upto_region 11 with fail
      rw [← hW6.out]
      clear hW6
      generalize hbo : w5.heap.size = bo at *
      have hne : ¬ b + 1 = bo := by omega
      have hne2 : ¬ bo = b + 1 := by omega
      have HBF : Hid (Below b w (W6.setCell ⟨bo, 1, none⟩ (.bool true))) := B6.out.setCell (show b ≤ bo by omega) _
      have HSF : Hid (SliceG (W6.setCell ⟨bo, 1, none⟩ (.bool true)) w4.heap.size (.slice pu Y.ar.length cu) Y.ar) := keep_cell S6.out HPl.out
      have HXF : Hid (BoxG (W6.setCell ⟨bo, 1, none⟩ (.bool true)) (b + 1)) := X6.out.of_block (by simp only [World.setCell, Array.getElem?_modify]; rw [if_neg hne2]) (by simp)
      clear S6 X6 B6
      obtain ⟨x0, x1, x2, f0, f1, f2, hlt⟩ := HXF.out
      go_wp2
      refine bodyPost_ret (v := .agg #[.slice pu Y.ar.length cu, .bool true, .int .i64 Y.co]) (by simp [results, Try.results58, go_sem, x0, x1, x2]) rfl ⟨_, rfl, ⟨_, by rw [HR3.out], by rw [HR3.out, hbb]; exact (HSF.out.store3 (by omega)).mono (by omega)⟩, by rw [hbb]; exact HBF.out.trans ((store3G_below (Below.refl (b + 1) _)).mono (by omega))⟩
set_option maxRecDepth 10000 in
set_option maxHeartbeats 8000000 in
theorem specGrantAsk_any (v : Value) (L : List Gr) (a : Aq) (now : Int) (B : Nat) (w : World) (hs : SliceG w B v L) (hn : L.length ≤ 1048576) :
    Calls Try.prog 23 #[v, aqV a, .int .i64 now] w fun e w' => ∃ v', e = .returned v' ∧ AnsG w' w.heap.size v' (askG L a now) ∧ Below w.heap.size w w' := by
  have KG : Hid (∀ W, Below w.heap.size w W → Calls Try.prog 35 #[v] W fun e w' => e = .returned (.bool (grantsB L)) ∧ Below W.heap.size W w') := fun W hb => specGrants_any v L B W (hs.below hb) hn
  have KT0 : ∀ W, Calls Try.prog 57 #[.string a.tp] W fun e w' => e = .returned (.bool (siteG a.tp)) ∧ w' = W := fun W => specSite8_any _ W
  have KS0 : ∀ W, Calls Try.prog 57 #[.string a.si] W fun e w' => e = .returned (.bool (siteG a.si)) ∧ w' = W := fun W => specSite8_any _ W
  have KU : Hid (∀ W, Calls Try.prog 38 #[.int .i64 now] W fun e w' => e = .returned (.bool (timeG now)) ∧ w' = W) := fun W => specTime8_any now W
  have KA0 : mayG L a.tp a.si now = true → ∀ W, Below w.heap.size w W → Calls Try.prog 58 #[v, aqV a, .int .i64 now] W fun e w' => ∃ v', e = .returned v' ∧ AnsG w' W.heap.size v' (askR L a now) ∧ Below W.heap.size W w' := fun h W hb => specAskR_any v L a now B W (hs.below hb) h
  have HN2 : Hid (¬ L.length ≤ 400 → askG L a now = noG 2) := fun h => by unfold askG; rw [if_neg h]
  have HN1 : Hid (L.length ≤ 400 → mayG L a.tp a.si now = false → askG L a now = noG 1) := fun h h2 => by unfold askG; rw [if_pos h, if_neg (by rw [h2]; decide)]
  have HY : Hid (L.length ≤ 400 → mayG L a.tp a.si now = true → askG L a now = askR L a now) := fun h h2 => by unfold askG; rw [if_pos h, if_pos h2]
  have HM0 : mayG L a.tp a.si now = (grantsB L && siteG a.tp && siteG a.si && timeG now) := rfl
  obtain ⟨⟨q, cap, rfl, -⟩, -⟩ := hs
  generalize askG L a now = Z at *
  generalize askR L a now = Y at *
  obtain ⟨tp, si, tc, sa, re, ye⟩ := a
  unfold aqV at *
  dsimp only at *
  have KT : Hid (∀ W, Calls Try.prog 57 #[.string tp] W fun e w' => e = .returned (.bool (siteG tp)) ∧ w' = W) := KT0
  have KS : Hid (∀ W, Calls Try.prog 57 #[.string si] W fun e w' => e = .returned (.bool (siteG si)) ∧ w' = W) := KS0
  have KA : Hid (mayG L tp si now = true → ∀ W, Below w.heap.size w W → Calls Try.prog 58 #[.slice q L.length cap, .agg #[.string tp, .string si, .bool tc, .bool sa, .bool re, .bool ye], .int .i64 now] W fun e w' => ∃ v', e = .returned v' ∧ AnsG w' W.heap.size v' Y ∧ Below W.heap.size W w') := KA0
  have HM : Hid (mayG L tp si now = (grantsB L && siteG tp && siteG si && timeG now)) := HM0
  clear KT0 KS0 KA0 HM0
  generalize mayG L tp si now = my at *
  generalize grantsB L = r1 at *
  generalize siteG tp = r2 at *
  generalize siteG si = r3 at *
  generalize timeG now = r4 at *
  obtain ⟨W0, hW⟩ : ∃ W0, W0 = (w.alloc (.cells #[.string tp, .string si, .bool tc, .bool sa, .bool re, .bool ye] 42)).alloc (.cells #[.slice none 0 0, .bool false, .int .i64 0] 33) := ⟨_, rfl⟩
  have hW0 : Hid (W0 = (w.alloc (.cells #[.string tp, .string si, .bool tc, .bool sa, .bool re, .bool ye] 42)).alloc (.cells #[.slice none 0 0, .bool false, .int .i64 0] 33)) := hW
  have B0 : Hid (Below w.heap.size w W0) := by show Below _ _ _; rw [hW]; exact ((Below.refl _ _).alloc (Nat.le_refl _) _).alloc (by simp) _
  have X0 : Hid (BoxG W0 (w.heap.size + 1)) := by
    show BoxG _ _
    rw [hW]
    have := boxG_made (w.alloc (.cells #[.string tp, .string si, .bool tc, .bool sa, .bool re, .bool ye] 42)) 33
    simpa using this
  have a0 : W0.cell? ⟨w.heap.size, 0, none⟩ = some (.string tp) := by rw [hW]; simp
  have a1 : W0.cell? ⟨w.heap.size, 1, none⟩ = some (.string si) := by rw [hW]; simp
  have a2 : W0.cell? ⟨w.heap.size, 2, none⟩ = some (.bool tc) := by rw [hW]; simp
  have a3 : W0.cell? ⟨w.heap.size, 3, none⟩ = some (.bool sa) := by rw [hW]; simp
  have a4 : W0.cell? ⟨w.heap.size, 4, none⟩ = some (.bool re) := by rw [hW]; simp
  have a5 : W0.cell? ⟨w.heap.size, 5, none⟩ = some (.bool ye) := by rw [hW]; simp
  have z0 : w.heap.size + 1 < W0.heap.size := by rw [hW]; simp
  clear hW
  by_cases c1 : 400 < L.length
  case pos =>
    have HR : Hid (Z = noG 2) := HN2.out (by omega)
    have q1 : decide ((400 : Int) < (L.length : Int)) = true := by rw [decide_eq_true_iff]; omega
    obtain ⟨x0, x1, x2, f0, f1, f2, hlt⟩ := X0.out
    go_enter Try.func23, Try.ntmps23
    go_upto_region 1 with fail
    rw [← hW0.out]
    clear hW0
    generalize hbb : w.heap.size = b at *
    go_wp2
    refine bodyPost_ret (v := .agg #[.slice none 0 0, .bool false, .int .i64 2]) (by simp [results, Try.results23, go_sem, x0, x1, x2]) rfl ⟨_, rfl, ⟨_, by rw [HR.out]; rfl, by rw [HR.out, hbb]; exact sliceG_none _ _⟩, by rw [hbb]; exact B0.out.trans ((store3G_below (Below.refl (b + 1) W0)).mono (by omega))⟩
  have q1 : decide ((400 : Int) < (L.length : Int)) = false := by rw [decide_eq_false_iff_not]; omega
  have HN1b := HN1.out (by omega)
  have HN1c : Hid (my = false → Z = noG 1) := HN1b
  have HYb := HY.out (by omega)
  have HYc : Hid (my = true → Z = Y) := HYb
  clear HN2 HN1 HY HN1b HYb c1
  go_enter Try.func23, Try.ntmps23
  go_upto_region 1 with fail
  rw [← hW0.out]
  clear hW0
  generalize hbb : w.heap.size = b at *
  go_wp2_with fail
  refine (KG.out _ B0.out).mono ?_
  rintro e w1 ⟨rfl, hb1⟩
  have B1 : Hid (Below b w w1) := B0.out.trans (hb1.mono (by omega))
  have X1 : Hid (BoxG w1 (b + 1)) := X0.out.below hb1
  have z1 : b + 1 < w1.heap.size := Nat.lt_of_lt_of_le z0 hb1.size
  have c0 := ((bcell hb1).1 _ _ (show b < W0.heap.size by omega)).trans a0
  have c1 := ((bcell hb1).1 _ _ (show b < W0.heap.size by omega)).trans a1
  have c2 := ((bcell hb1).1 _ _ (show b < W0.heap.size by omega)).trans a2
  have c3 := ((bcell hb1).1 _ _ (show b < W0.heap.size by omega)).trans a3
  have c4 := ((bcell hb1).1 _ _ (show b < W0.heap.size by omega)).trans a4
  have c5 := ((bcell hb1).1 _ _ (show b < W0.heap.size by omega)).trans a5
  clear hb1 B0 X0 KG a0 a1 a2 a3 a4 a5
  cases r1 with
  | false =>
    have HR : Hid (Z = noG 1) := HN1c.out (by rw [HM.out]; rfl)
    obtain ⟨x0, x1, x2, f0, f1, f2, hlt⟩ := X1.out
    go_wp2
    refine bodyPost_ret (v := .agg #[.slice none 0 0, .bool false, .int .i64 1]) (by simp [results, Try.results23, go_sem, x0, x1, x2]) rfl ⟨_, rfl, ⟨_, by rw [HR.out]; rfl, by rw [HR.out, hbb]; exact sliceG_none _ _⟩, by rw [hbb]; exact B1.out.trans ((store3G_below (Below.refl (b + 1) w1)).mono (by omega))⟩
  | true =>
  go_wp2_with fail
  refine (KT.out _).mono ?_
  rintro e w2 ⟨rfl, rfl⟩
  cases r2 with
  | false =>
    have HR : Hid (Z = noG 1) := HN1c.out (by rw [HM.out]; rfl)
    obtain ⟨x0, x1, x2, f0, f1, f2, hlt⟩ := X1.out
    go_wp2
    refine bodyPost_ret (v := .agg #[.slice none 0 0, .bool false, .int .i64 1]) (by simp [results, Try.results23, go_sem, x0, x1, x2]) rfl ⟨_, rfl, ⟨_, by rw [HR.out]; rfl, by rw [HR.out, hbb]; exact sliceG_none _ _⟩, by rw [hbb]; exact B1.out.trans ((store3G_below (Below.refl (b + 1) w2)).mono (by omega))⟩
  | true =>
  go_wp2_with fail
  refine (KS.out _).mono ?_
  rintro e w2 ⟨rfl, rfl⟩
  cases r3 with
  | false =>
    have HR : Hid (Z = noG 1) := HN1c.out (by rw [HM.out]; rfl)
    obtain ⟨x0, x1, x2, f0, f1, f2, hlt⟩ := X1.out
    go_wp2
    refine bodyPost_ret (v := .agg #[.slice none 0 0, .bool false, .int .i64 1]) (by simp [results, Try.results23, go_sem, x0, x1, x2]) rfl ⟨_, rfl, ⟨_, by rw [HR.out]; rfl, by rw [HR.out, hbb]; exact sliceG_none _ _⟩, by rw [hbb]; exact B1.out.trans ((store3G_below (Below.refl (b + 1) w2)).mono (by omega))⟩
  | true =>
  go_wp2_with fail
  refine (KU.out _).mono ?_
  rintro e w2 ⟨rfl, rfl⟩
  cases r4 with
  | false =>
    have HR : Hid (Z = noG 1) := HN1c.out (by rw [HM.out]; rfl)
    obtain ⟨x0, x1, x2, f0, f1, f2, hlt⟩ := X1.out
    go_wp2
    refine bodyPost_ret (v := .agg #[.slice none 0 0, .bool false, .int .i64 1]) (by simp [results, Try.results23, go_sem, x0, x1, x2]) rfl ⟨_, rfl, ⟨_, by rw [HR.out]; rfl, by rw [HR.out, hbb]; exact sliceG_none _ _⟩, by rw [hbb]; exact B1.out.trans ((store3G_below (Below.refl (b + 1) w2)).mono (by omega))⟩
  | true =>
  have hmy : my = true := by rw [HM.out]; rfl
  subst hmy
  have HR : Hid (Z = Y) := HYc.out rfl
  have KA2 := KA.out rfl
  have KA3 : Hid (∀ W, Below b w W → Calls Try.prog 58 #[.slice q L.length cap, .agg #[.string tp, .string si, .bool tc, .bool sa, .bool re, .bool ye], .int .i64 now] W fun e w' => ∃ v', e = .returned v' ∧ AnsG w' W.heap.size v' Y ∧ Below W.heap.size W w') := KA2
  clear KA KA2 HYc HN1c HM KT KS KU
  go_wp2_with fail
  refine (KA3.out _ B1.out).mono ?_
  rintro e w3 ⟨v3, rfl, ⟨s3, rfl, hs3⟩, hb3⟩
  have S3 : Hid (SliceG w3 w2.heap.size s3 Y.ar) := hs3
  have B3 : Hid (Below b w w3) := B1.out.trans (hb3.mono (by omega))
  obtain ⟨x0, x1, x2, f0, f1, f2, hlt⟩ := X1.out.below hb3
  obtain ⟨pq, cq, hv3⟩ : ∃ pq cq, s3 = .slice pq Y.ar.length cq := by obtain ⟨⟨p, c, e, -⟩, -⟩ := hs3; exact ⟨p, c, e⟩
  clear hs3 hb3 X1 B1
  obtain ⟨ya, yu, yc⟩ := Y
  dsimp only at *
  generalize hm : ya.length = m at *
  subst hv3
  go_wp2
  refine bodyPost_ret (v := .agg #[.slice pq m cq, .bool yu, .int .i64 yc]) (by simp [results, Try.results23, go_sem, x0, x1, x2]) rfl ⟨_, rfl, ⟨_, by rw [HR.out], by rw [HR.out, hbb]; exact (S3.out.store3 (by omega)).mono (by omega)⟩, by rw [hbb]; exact B3.out.trans ((store3G_below (Below.refl (b + 1) w3)).mono (by omega))⟩
end Go.Proofs.Ytehnklgpdjfcgaa
