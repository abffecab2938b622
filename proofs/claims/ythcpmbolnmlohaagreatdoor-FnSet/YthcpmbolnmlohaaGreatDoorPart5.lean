/- 4 of this claim's texts, one behind the other. -/
import Derived.Deep.DeepCutAuto
import Derived.Test.YthcpmbolnmlohaaGreatDoorPart3
import Derived.Deep.AppendLies
import Derived.ProofKit
import Derived.OpenShut
import Derived.Test.YthcpmbolnmlohaaGreatDoorPart4
import Derived.Handed
import Derived.Lay
import Derived.MakeChecks
import Derived.Lib.LaidTab
import Derived.Stop.LaidErr
import Derived.Laws.IdiomArrays
import Derived.LaidLaws
import Derived.WalkSmall
import Derived.Carry
import Derived.ChangeVars
/- The walk of the specification's PairsRead. -/
namespace Go.Proofs.YthcpmbolnmlohaaGreatDoor
open Go.RowKit

theorem infoPairS : (Tryz.prog.info? 46).map (fun i => (i.zero, i.size, i.bytes)) = some (some (.agg #[.string ⟨#[]⟩, .string ⟨#[]⟩]), 2, 32) := by kernel_rfl
/-- the pairs of the first k pieces -/
def readQ (L : List ByteArray) (k : Nat) : List (ByteArray × ByteArray) := (L.take k).map pairP
theorem readQ_succ {L : List ByteArray} {k : Nat} (h : k < L.length) : readQ L (k + 1) = readQ L k ++ [((pairP (atL L k)).1, (pairP (atL L k)).2)] := by
  have e : atL L k = L[k] := by simp [atL, h]
  unfold readQ
  rw [List.take_succ_eq_append_getElem h, List.map_append, e]; rfl
theorem readQ_len (L : List ByteArray) (k : Nat) : (readQ L k).length ≤ k := by unfold readQ; simp; omega
theorem readQ_small {t : ByteArray} (i : Nat) (h : i < (readQ (piecesL t) (piecesL t).length).length) : (atP (readQ (piecesL t) (piecesL t).length) i).1.size ≤ t.size ∧ (atP (readQ (piecesL t) (piecesL t).length) i).2.size ≤ t.size := by
  have hm := List.getElem_mem h
  rw [← atP_eq h] at hm
  unfold readQ at hm ⊢
  obtain ⟨x, hx, e⟩ := List.mem_map.1 hm
  rw [← e]
  have h1 := pairP_size x
  have h2 := piecesL_small t x (List.mem_of_mem_take hx)
  omega
theorem after_drew {w w' : World} (h : Below w.drew.heap.size w.drew w') : Below w.heap.size w w' := (Below.drew (Below.refl _ _)).trans h
theorem own_value {w : World} {B n sz : Nat} {e : TypeId} {v : Value} {xs : List Value} (h : w.ownsRow B e sz v n xs) : ∃ p c, v = .slice p n c := by
  obtain ⟨_, ⟨rfl, rfl⟩ | ⟨g, cap, _, rfl, _⟩⟩ := h
  · exact ⟨_, _, rfl⟩
  · exact ⟨_, _, rfl⟩
set_option maxRecDepth 10000 in
set_option maxHeartbeats 8000000 in
theorem specPairsRead_any (t : ByteArray) (w : World) :
    Calls Tryz.prog 21 #[.string t] w fun e w' => ∃ v, e = .returned (.agg #[v, .int .i64 (pairsGot t).2]) ∧ SliceP w' w.heap.size v (pairsGot t).1 ∧ Below w.heap.size w w' := by
  have HN : Hid (∀ (W : World) (B : Nat) (p : Option Addr) (c : Nat), SliceP W B (.slice p 0 c) []) := fun W B p c => sliceR_none W B 2 p c _
  by_cases h8 : 8000 < t.size
  · have HR : Hid (pairsGot t = ([], 2)) := by show _ = _; unfold pairsGot; rw [if_pos h8]
    generalize pairsGot t = R at *
    go_enter Tryz.func21, Tryz.ntmps21
    go_wp2
    exact bodyPost_ret (v := .agg #[.slice none 0 0, .int .i64 2]) (by simp [results, Tryz.results21, go_sem]) rfl ⟨.slice none 0 0, by rw [HR.out], by rw [HR.out]; exact HN.out _ _ _ _, (Below.refl _ _).alloc (Nat.le_refl _) _⟩
  have q8 : decide ((8000 : Int) < (t.size : Int)) = false := by rw [decide_eq_false_iff_not]; omega
  cases ht : t.toList.isEmpty with
  | true =>
    have HR : Hid (pairsGot t = ([], 0)) := by show _ = _; unfold pairsGot; rw [if_neg h8, if_pos ht]
    generalize pairsGot t = R at *
    go_enter Tryz.func21, Tryz.ntmps21
    go_wp2
    exact bodyPost_ret (v := .agg #[.slice none 0 0, .int .i64 0]) (by simp [results, Tryz.results21, go_sem]) rfl ⟨.slice none 0 0, by rw [HR.out], by rw [HR.out]; exact HN.out _ _ _ _, (Below.refl _ _).alloc (Nat.le_refl _) _⟩
  | false =>
    have HR0 : Hid (pairsGot t = if ((pairsT (readQ (piecesL t) (piecesL t).length)).toList == t.toList) = true then (readQ (piecesL t) (piecesL t).length, 0) else ([], 3)) := by
      show _ = _
      unfold pairsGot readQ
      rw [if_neg h8, if_neg (by rw [ht]; decide), List.take_length]
    have KS : Hid (∀ W, Calls Tryz.prog 48 #[.string t] W fun e w' => ∃ v, e = .returned v ∧ w'.ownsRow W.heap.size 9 1 v (piecesL t).length (strCells (piecesL t)) ∧ Below W.heap.size W w') := fun W => specPieces_any t W (by omega)
    have hlen := piecesL_len t
    have HSM : Hid (∀ i, i < (piecesL t).length → (atL (piecesL t) i).size ≤ 1048576) := fun i hi => by
      have e : atL (piecesL t) i = (piecesL t)[i] := by simp [atL, hi]
      rw [e]; have := piecesL_small t _ (List.getElem_mem hi); omega
    have HRS : Hid (∀ i, i < (readQ (piecesL t) (piecesL t).length).length → (atP (readQ (piecesL t) (piecesL t).length) i).1.size ≤ 1048576 ∧ (atP (readQ (piecesL t) (piecesL t).length) i).2.size ≤ 1048576) := fun i hi => by
      have := readQ_small i hi; omega
    obtain ⟨i0, hi, hy0, hy1, hy2⟩ := info_parts infoPairS
    generalize pairsGot t = R at *
    generalize piecesL t = L at *
    have hL : L.length ≤ 8001 := by omega
    clear hlen
    have W0 : Hid (∀ o, Below w.heap.size w (w.alloc o)) := fun o => (Below.refl _ _).alloc (Nat.le_refl _) _
    go_enter Tryz.func21, Tryz.ntmps21
    go_wp2_with fail
    refine (KS.out _).mono ?_
    rintro e w1 ⟨vL, rfl, ho, hb1⟩
    have z1 : w.heap.size < w1.heap.size := by have := hb1.size; simp at this; omega
    have g0 : w1.cell? ⟨w.heap.size, 0, none⟩ = some (.slice none 0 0) := by rw [(bcell hb1).1 _ _ (by simp)]; simp
    have g1 : w1.cell? ⟨w.heap.size, 1, none⟩ = some (.int .i64 0) := by rw [(bcell hb1).1 _ _ (by simp)]; simp
    have gf : ∀ o, w1.frozen? ⟨w.heap.size, o, none⟩ = false := fun o => by rw [(bcell hb1).2 _ _ (by simp)]; simp
    have B1 : Hid (Below w.heap.size w w1) := (W0.out _).trans (hb1.mono (by simp))
    have HGf : Hid (∀ (W : World), Below w1.heap.size w1 W → W.cell? ⟨w.heap.size, 0, none⟩ = some (.slice none 0 0) ∧ W.cell? ⟨w.heap.size, 1, none⟩ = some (.int .i64 0) ∧ ∀ o, W.frozen? ⟨w.heap.size, o, none⟩ = false) := fun W hb => ⟨by rw [(bcell hb).1 _ _ z1]; exact g0, by rw [(bcell hb).1 _ _ z1]; exact g1, fun o => by rw [(bcell hb).2 _ _ z1]; exact gf o⟩
    have SL : Hid (SliceS w1 0 vL L.length (atL L)) := (slice_of_own ho).mono (Nat.zero_le _)
    clear ho hb1 g0 g1 gf KS W0
    obtain ⟨pL, cL, rfl, hgL⟩ := SL.out
    have HGL : Hid (0 < L.length → ∃ g, pL = some ⟨g, 0, none⟩ ∧ g < w1.heap.size ∧ ∀ j, j < L.length → w1.cell? ⟨g, j, none⟩ = some (.string (atL L j))) := fun h => by
      obtain ⟨g, e, -, hg, hc⟩ := hgL h
      exact ⟨g, e, hg, fun j hj => (hc j hj).1⟩
    clear hgL SL
    have M0 : Hid ((w1.alloc (.cells #[.slice none 0 0, .int .i64 0] 37)).cell? ⟨w1.heap.size, 0, none⟩ = some (.slice none 0 0) ∧ (w1.alloc (.cells #[.slice none 0 0, .int .i64 0] 37)).cell? ⟨w1.heap.size, 1, none⟩ = some (.int .i64 0) ∧ (∀ o, (w1.alloc (.cells #[.slice none 0 0, .int .i64 0] 37)).frozen? ⟨w1.heap.size, o, none⟩ = false) ∧ w1.heap.size + 1 ≤ (w1.alloc (.cells #[.slice none 0 0, .int .i64 0] 37)).heap.size ∧ Below w1.heap.size w1 (w1.alloc (.cells #[.slice none 0 0, .int .i64 0] 37))) := ⟨by simp, by simp, by simp, by simp, (Below.refl _ _).alloc (Nat.le_refl _) _⟩
    go_upto_region 7 with fail
    generalize w1.alloc (.cells #[.slice none 0 0, .int .i64 0] 37) = w2 at *
    go_wp2
    go_loopw [5] (fun i wr => ∃ (k : Nat) (v : Value), k ≤ L.length ∧ i = .int .i64 k ∧ Hid (wr.cell? ⟨w1.heap.size, 0, none⟩ = some v ∧ wr.cell? ⟨w1.heap.size, 1, none⟩ = some (.int .i64 0) ∧ (∀ o, wr.frozen? ⟨w1.heap.size, o, none⟩ = false) ∧ w1.heap.size + 1 ≤ wr.heap.size) ∧ Hid (wr.ownsRow (w1.heap.size + 1) 46 2 v (readQ L k).length (pairCells (readQ L k))) ∧ Hid (Below w1.heap.size w1 wr)) (fun i _ => L.length - (intOf i).toNat)
    case atStart => exact ⟨0, _, Nat.zero_le _, rfl, ⟨M0.out.1, M0.out.2.1, M0.out.2.2.1, M0.out.2.2.2.1⟩, World.ownsRow_nil _ _ _ _, M0.out.2.2.2.2⟩
    case round =>
      obtain ⟨k, v, hk, rfl, HC, HO, HB⟩ := hrel
      have hpl := readQ_len L k
      have hbs : w1.heap.size + 1 ≤ wr.heap.size := HC.out.2.2.2
      have c0 := HC.out.1
      have c1 := HC.out.2.1
      have cf := HC.out.2.2.1
      have cf0 := cf 0
      by_cases hlt : k < L.length
      · obtain ⟨g, rfl, hgw, hcL⟩ := HGL.out (by omega)
        have ck : wr.cell? ⟨g, k, none⟩ = some (.string (atL L k)) := by rw [(bcell HB.out).1 _ _ hgw]; exact hcL k hlt
        have k0 : (0 : Int) ≤ k := by omega
        have k1 : (k : Int) < L.length := by omega
        have KP : Hid (∀ W, Calls Tryz.prog 49 #[.string (atL L k)] W fun e w' => e = .returned (.agg #[.string (pairP (atL L k)).1, .string (pairP (atL L k)).2]) ∧ Below W.heap.size W w') := fun W => specPair_any _ W (HSM.out k hlt)
        have HP : Hid (readQ L (k + 1) = readQ L k ++ [((pairP (atL L k)).1, (pairP (atL L k)).2)]) := readQ_succ hlt
        have ab : v.ownBlock ≠ some w1.heap.size := fun e => by have := (HO.out.lt _ e).1; omega
        have ag : v.ownBlock ≠ some g := fun e => by have := (HO.out.lt _ e).1; omega
        clear hcL
        generalize (pairP (atL L k)).1 = n1 at *
        generalize (pairP (atL L k)).2 = v1 at *
        generalize atL L k = x at *
        have hlr : (readQ L k).length + 1 ≤ 8002 := by omega
        have hgr : g < wr.heap.size := by omega
        go_wp2_with fail
        have hgb : ¬ w1.heap.size = g := by omega
        refine wp_region_held_drew (S := (fun w' => w'.cell? ⟨g, k, none⟩ = some (.string x))) (by kernel_rfl) ?_ (fun hH0 => ?_)
        · (try dsimp only)
          first | go_keep | assumption | (rw [World.cell?_setCell_far _ _ _ _ hgb]; assumption)
        refine wpAnyH_take (i := 0) (oi := { dst := some 22, op := Op.fieldAddr 37 (Operand.tmp 4) 0, type := 0, pos := "l04_header.go:152", after := #[], guard := none }) (v := ?va1) rfl (by kernel_rfl) (by kernel_rfl) (by kernel_rfl) (fun _ _ _ h => h) (Or.inl ⟨by rfl, ?hya1⟩) (by assumption) ?resta1
        case hya1 =>
          intro w hSw
          (try dsimp only at hSw)
          go_simp
          try with_reducible rfl
        try simp only [Act.put, List.setIfInBounds_toArray, List.set_cons_zero, List.set_cons_succ]
        refine wpAnyH_take (i := 2) (oi := { dst := some 24, op := Op.move (Operand.tmp 3), type := 47, pos := "l04_header.go:152", after := #[], guard := none }) (v := ?va2) rfl (by kernel_rfl) (by kernel_rfl) (by kernel_rfl) (fun _ _ _ h => h) (Or.inl ⟨by rfl, ?hya2⟩) (by assumption) ?resta2
        case hya2 =>
          intro w hSw
          (try dsimp only at hSw)
          go_simp
          try with_reducible rfl
        try simp only [Act.put, List.setIfInBounds_toArray, List.set_cons_zero, List.set_cons_succ]
        refine wpAnyH_take (i := 3) (oi := { dst := some 25, op := Op.move (Operand.tmp 5), type := 3, pos := "l04_header.go:152", after := #[], guard := none }) (v := ?va3) rfl (by kernel_rfl) (by kernel_rfl) (by kernel_rfl) (fun _ _ _ h => h) (Or.inl ⟨by rfl, ?hya3⟩) (by assumption) ?resta3
        case hya3 =>
          intro w hSw
          (try dsimp only at hSw)
          go_simp
          try with_reducible rfl
        try simp only [Act.put, List.setIfInBounds_toArray, List.set_cons_zero, List.set_cons_succ]
        refine wpAnyH_take (i := 4) (oi := { dst := some 26, op := Op.indexAddr 47 (Operand.tmp 24) (Operand.tmp 25), type := 0, pos := "l04_header.go:152", after := #[{ on := 2, ground := Ground.data }, { on := 3, ground := Ground.data }], guard := none }) (v := ?va4) rfl (by kernel_rfl) (by kernel_rfl) (by kernel_rfl) (fun _ _ _ h => h) (Or.inl ⟨by rfl, ?hya4⟩) (by assumption) ?resta4
        case hya4 =>
          intro w hSw
          (try dsimp only at hSw)
          go_simp
          try with_reducible rfl
        try simp only [Act.put, List.setIfInBounds_toArray, List.set_cons_zero, List.set_cons_succ]
        refine wpAnyH_take (i := 5) (oi := { dst := some 27, op := Op.load 9 (Operand.tmp 26), type := 9, pos := "l04_header.go:152", after := #[{ on := 4, ground := Ground.data }], guard := none }) (v := ?va5) rfl (by kernel_rfl) (by kernel_rfl) (by kernel_rfl) (fun _ _ _ h => h) (Or.inl ⟨by rfl, ?hya5⟩) (by assumption) ?resta5
        case hya5 =>
          intro w hSw
          (try dsimp only at hSw)
          go_simp
          try with_reducible rfl
        try simp only [Act.put, List.setIfInBounds_toArray, List.set_cons_zero, List.set_cons_succ]
        refine wpAnyH_ready (rs := [1, 6]) (by kernel_rfl) (by simp) ?_
        refine AllReadyH.cons (o := { dst := some 23, op := Op.load 33 (Operand.tmp 22), type := 33, pos := "l04_header.go:152", after := #[{ on := 0, ground := Ground.data }], guard := none }) rfl (fun K hK => ?_) (AllReadyH.cons (o := { dst := some 28, op := Op.call { callee := Callee.value (Operand.func 49), args := #[Operand.tmp 27], argTypes := #[9] }, type := 46, pos := "l04_header.go:152", after := #[{ on := 5, ground := Ground.data }], guard := none }) rfl (fun K hK => ?_) AllReadyH.nil)
        · skip
          go_simp
          try (go_wp2_with fail)
          refine hK.out _ _ ?_ (fun hH1 => ?_)
          · (try dsimp only)
            first | go_keep | assumption | (rw [World.cell?_setCell_far _ _ _ _ hgb]; assumption)
          clear hK K hH0
          try simp only [Act.put, List.setIfInBounds_toArray, List.set_cons_zero, List.set_cons_succ]
          refine wpAnyH_ready (rs := [6]) (by kernel_rfl) (by simp) ?_
          refine AllReadyH.cons (o := { dst := some 28, op := Op.call { callee := Callee.value (Operand.func 49), args := #[Operand.tmp 27], argTypes := #[9] }, type := 46, pos := "l04_header.go:152", after := #[{ on := 5, ground := Ground.data }], guard := none }) rfl (fun K hK => ?_) AllReadyH.nil
          · skip
            go_simp
            (go_at_call 49; refine (KP.out _).mono ?_; rintro e w3 ⟨rfl, hb3⟩; have A3 : Below wr.heap.size wr w3 := after_drew hb3; have hz3 : w1.heap.size + 1 ≤ w3.heap.size := Nat.le_trans hbs A3.size; have d0 : w3.cell? ⟨w1.heap.size, 0, none⟩ = some v := ((bcell A3).1 _ _ hbs).trans c0; have d1 : w3.cell? ⟨w1.heap.size, 1, none⟩ = some (.int .i64 0) := ((bcell A3).1 _ _ hbs).trans c1; have df : w3.frozen? ⟨w1.heap.size, 0, none⟩ = false := ((bcell A3).2 _ _ hbs).trans (cf 0); have dk : w3.cell? ⟨g, k, none⟩ = some (.string x) := ((bcell A3).1 _ _ hgr).trans ck; have O3 : Hid (w3.ownsRow (w1.heap.size + 1) 46 2 v (readQ L k).length (pairCells (readQ L k))) := ownR_below HO.out A3; have da : ∀ o, (w3.alloc o).cell? ⟨w1.heap.size, 0, none⟩ = some v := fun o => ((bcell ((Below.refl w3.heap.size w3).alloc (Nat.le_refl _) o)).1 _ _ hz3).trans d0; clear hb3)
            try (go_wp2_with fail)
            refine hK.out _ _ ?_ (fun hH2 => ?_)
            · (try dsimp only)
              first | go_keep | assumption | (rw [World.cell?_setCell_far _ _ _ _ hgb]; assumption)
            clear hK K hH1
            try simp only [Act.put, List.setIfInBounds_toArray, List.set_cons_zero, List.set_cons_succ]
            refine wpAnyH_ready (rs := [7]) (by kernel_rfl) (by simp) ?_
            refine AllReadyH.cons (o := { dst := some 29, op := Op.buildSlice 33 1 #[(0, Operand.tmp 28)], type := 33, pos := "l04_header.go:152", after := #[{ on := 6, ground := Ground.data }], guard := none }) rfl (fun K hK => ?_) AllReadyH.nil
            · skip
              go_simp
              try (go_wp2_with fail)
              refine hK.out _ _ ?_ (fun hH3 => ?_)
              · (try dsimp only)
                first | go_keep | assumption | (rw [World.cell?_setCell_far _ _ _ _ hgb]; assumption)
              clear hK K hH2
              try simp only [Act.put, List.setIfInBounds_toArray, List.set_cons_zero, List.set_cons_succ]
              refine wpAnyH_ready (rs := [8]) (by kernel_rfl) (by simp) ?_
              refine AllReadyH.cons (o := { dst := some 30, op := Op.call { callee := Callee.builtin Builtin.append, args := #[Operand.tmp 23, Operand.tmp 29], argTypes := #[33, 33] }, type := 33, pos := "l04_header.go:152", after := #[{ on := 1, ground := Ground.data }, { on := 7, ground := Ground.data }, { on := 6, ground := Ground.chain }], guard := none }) rfl (fun K hK => ?_) AllReadyH.nil
              · skip
                (refine step_append_lies _ (by rfl) _ _ _ (by rfl) (w1.heap.size + 1) 46 i0 (.agg #[.string ⟨#[]⟩, .string ⟨#[]⟩]) 2 32 Tryz.underlying33 hi hy0 hy1 hy2 rfl (by omega) v (readQ L k).length (pairCells (readQ L k)) (by rfl) (O3.out.alloc _) ⟨w3.heap.size, 0, none⟩ 1 1 [.string n1, .string v1] (by rfl) (by rfl) (World.news_of_block (cs := #[.string n1, .string v1]) (t := 46) (fr := (0, 0)) (heap_alloc_new w3 _)) (by simp [Value.oneCell']) (by omega) (by unfold maxLen; omega) (by omega) (by simp; omega) (w3.heap.size + 1) (by simp) ?_; intro gg cap w4 hown4 hgrow hat hlt4; have e0 : w4.cell? ⟨w1.heap.size, 0, none⟩ = some v := (hgrow.cell_far _ (by simp; omega) (Ne.symm ab)).trans (((bcell ((Below.refl w3.heap.size w3).alloc (Nat.le_refl _) _)).1 _ _ hz3).trans d0); have e1 : w4.cell? ⟨w1.heap.size, 1, none⟩ = some (.int .i64 0) := (hgrow.cell_far _ (by simp; omega) (Ne.symm ab)).trans (((bcell ((Below.refl w3.heap.size w3).alloc (Nat.le_refl _) _)).1 _ _ hz3).trans d1); have ef : ∀ o, w4.frozen? ⟨w1.heap.size, o, none⟩ = false := fun o => (hgrow.frozen_far _ (by simp; omega) (Ne.symm ab)).trans (((bcell ((Below.refl w3.heap.size w3).alloc (Nat.le_refl _) _)).2 _ _ hz3).trans (((bcell A3).2 _ _ hbs).trans (cf o))); have ek : w4.cell? ⟨g, k, none⟩ = some (.string x) := (hgrow.cell_far _ (by simp; omega) (Ne.symm ag)).trans (((bcell ((Below.refl w3.heap.size w3).alloc (Nat.le_refl _) _)).1 _ _ (Nat.lt_of_lt_of_le hgr A3.size)).trans dk); have ef0 := ef 0)
                refine hK.out _ _ ?_ (fun hH4 => ?_)
                · (try dsimp only)
                  first | go_keep | assumption | (rw [World.cell?_setCell_far _ _ _ _ hgb]; assumption)
                clear hK K hH3
                try simp only [Act.put, List.setIfInBounds_toArray, List.set_cons_zero, List.set_cons_succ]
                refine wpAnyH_take (i := 9) (oi := { dst := some 31, op := Op.fieldAddr 37 (Operand.tmp 4) 0, type := 0, pos := "l04_header.go:152", after := #[{ on := 0, ground := Ground.phase }, { on := 1, ground := Ground.phase }, { on := 2, ground := Ground.phase }, { on := 3, ground := Ground.phase }, { on := 4, ground := Ground.phase }, { on := 5, ground := Ground.phase }, { on := 6, ground := Ground.phase }, { on := 7, ground := Ground.phase }, { on := 8, ground := Ground.phase }], guard := none }) (v := ?va6) rfl (by kernel_rfl) (by kernel_rfl) (by kernel_rfl) (fun _ _ _ h => h) (Or.inl ⟨by rfl, ?hya6⟩) (by assumption) ?resta6
                case hya6 =>
                  intro w hSw
                  (try dsimp only at hSw)
                  go_simp
                  try with_reducible rfl
                try simp only [Act.put, List.setIfInBounds_toArray, List.set_cons_zero, List.set_cons_succ]
                refine wpAnyH_ready (rs := [10]) (by kernel_rfl) (by simp) ?_
                refine AllReadyH.cons (o := { dst := none, op := Op.store 33 (Operand.tmp 31) (Operand.tmp 30), type := 0, pos := "l04_header.go:152", after := #[{ on := 9, ground := Ground.data }, { on := 8, ground := Ground.data }, { on := 8, ground := Ground.chain }, { on := 0, ground := Ground.phase }, { on := 1, ground := Ground.phase }, { on := 2, ground := Ground.phase }, { on := 3, ground := Ground.phase }, { on := 4, ground := Ground.phase }, { on := 5, ground := Ground.phase }, { on := 6, ground := Ground.phase }, { on := 7, ground := Ground.phase }, { on := 8, ground := Ground.phase }], guard := none }) rfl (fun K hK => ?_) AllReadyH.nil
                · skip
                  go_simp
                  try (go_wp2_with fail)
                  refine hK.out _ _ ?_ (fun hH5 => ?_)
                  · (try dsimp only)
                    first | go_keep | assumption | (rw [World.cell?_setCell_far _ _ _ _ hgb]; assumption)
                  clear hK K hH4
                  try simp only [Act.put, List.setIfInBounds_toArray, List.set_cons_zero, List.set_cons_succ]
                  refine wpAnyH_done (by kernel_rfl) ?_ _
                  go_wp2
                  go_roundw
                  case rel =>
                    refine ⟨k + 1, _, by omega, by go_num, ⟨World.cell?_setCell_same _ _ _ e0, ?_, ?_, ?_⟩, ?_, ?_⟩
                    · rw [World.cell?_setCell_other _ _ _ _ (by simp)]; exact e1
                    · intro o; rw [World.frozen?_setCell]; exact ef o
                    · have := hgrow.size; simp [World.setCell] at this ⊢; omega
                    · show World.ownsRow _ _ _ _ _ _ _
                      rw [HP.out, ← pairCells_snoc, List.length_append]
                      exact ownsRow_setCell_below hown4 (Nat.lt_succ_self _) _
                    · exact Below.setCell (((HB.out.trans (A3.mono (by omega))).alloc (by omega) _).grown hgrow (by simp; omega) (fun j hj => by have := (HO.out.lt j hj).1; omega)) (Nat.le_refl _) _
                  case measure => simp [intOf]; omega
        · skip
          go_simp
          (go_at_call 49; refine (KP.out _).mono ?_; rintro e w3 ⟨rfl, hb3⟩; have A3 : Below wr.heap.size wr w3 := after_drew hb3; have hz3 : w1.heap.size + 1 ≤ w3.heap.size := Nat.le_trans hbs A3.size; have d0 : w3.cell? ⟨w1.heap.size, 0, none⟩ = some v := ((bcell A3).1 _ _ hbs).trans c0; have d1 : w3.cell? ⟨w1.heap.size, 1, none⟩ = some (.int .i64 0) := ((bcell A3).1 _ _ hbs).trans c1; have df : w3.frozen? ⟨w1.heap.size, 0, none⟩ = false := ((bcell A3).2 _ _ hbs).trans (cf 0); have dk : w3.cell? ⟨g, k, none⟩ = some (.string x) := ((bcell A3).1 _ _ hgr).trans ck; have O3 : Hid (w3.ownsRow (w1.heap.size + 1) 46 2 v (readQ L k).length (pairCells (readQ L k))) := ownR_below HO.out A3; have da : ∀ o, (w3.alloc o).cell? ⟨w1.heap.size, 0, none⟩ = some v := fun o => ((bcell ((Below.refl w3.heap.size w3).alloc (Nat.le_refl _) o)).1 _ _ hz3).trans d0; clear hb3)
          try (go_wp2_with fail)
          refine hK.out _ _ ?_ (fun hH1 => ?_)
          · (try dsimp only)
            first | go_keep | assumption | (rw [World.cell?_setCell_far _ _ _ _ hgb]; assumption)
          clear hK K hH0
          try simp only [Act.put, List.setIfInBounds_toArray, List.set_cons_zero, List.set_cons_succ]
          refine wpAnyH_ready (rs := [1, 7]) (by kernel_rfl) (by simp) ?_
          refine AllReadyH.cons (o := { dst := some 23, op := Op.load 33 (Operand.tmp 22), type := 33, pos := "l04_header.go:152", after := #[{ on := 0, ground := Ground.data }], guard := none }) rfl (fun K hK => ?_) (AllReadyH.cons (o := { dst := some 29, op := Op.buildSlice 33 1 #[(0, Operand.tmp 28)], type := 33, pos := "l04_header.go:152", after := #[{ on := 6, ground := Ground.data }], guard := none }) rfl (fun K hK => ?_) AllReadyH.nil)
          · skip
            go_simp
            try (go_wp2_with fail)
            refine hK.out _ _ ?_ (fun hH2 => ?_)
            · (try dsimp only)
              first | go_keep | assumption | (rw [World.cell?_setCell_far _ _ _ _ hgb]; assumption)
            clear hK K hH1
            try simp only [Act.put, List.setIfInBounds_toArray, List.set_cons_zero, List.set_cons_succ]
            refine wpAnyH_ready (rs := [7]) (by kernel_rfl) (by simp) ?_
            refine AllReadyH.cons (o := { dst := some 29, op := Op.buildSlice 33 1 #[(0, Operand.tmp 28)], type := 33, pos := "l04_header.go:152", after := #[{ on := 6, ground := Ground.data }], guard := none }) rfl (fun K hK => ?_) AllReadyH.nil
            · skip
              go_simp
              try (go_wp2_with fail)
              refine hK.out _ _ ?_ (fun hH3 => ?_)
              · (try dsimp only)
                first | go_keep | assumption | (rw [World.cell?_setCell_far _ _ _ _ hgb]; assumption)
              clear hK K hH2
              try simp only [Act.put, List.setIfInBounds_toArray, List.set_cons_zero, List.set_cons_succ]
              refine wpAnyH_ready (rs := [8]) (by kernel_rfl) (by simp) ?_
              refine AllReadyH.cons (o := { dst := some 30, op := Op.call { callee := Callee.builtin Builtin.append, args := #[Operand.tmp 23, Operand.tmp 29], argTypes := #[33, 33] }, type := 33, pos := "l04_header.go:152", after := #[{ on := 1, ground := Ground.data }, { on := 7, ground := Ground.data }, { on := 6, ground := Ground.chain }], guard := none }) rfl (fun K hK => ?_) AllReadyH.nil
              · skip
                (refine step_append_lies _ (by rfl) _ _ _ (by rfl) (w1.heap.size + 1) 46 i0 (.agg #[.string ⟨#[]⟩, .string ⟨#[]⟩]) 2 32 Tryz.underlying33 hi hy0 hy1 hy2 rfl (by omega) v (readQ L k).length (pairCells (readQ L k)) (by rfl) (O3.out.alloc _) ⟨w3.heap.size, 0, none⟩ 1 1 [.string n1, .string v1] (by rfl) (by rfl) (World.news_of_block (cs := #[.string n1, .string v1]) (t := 46) (fr := (0, 0)) (heap_alloc_new w3 _)) (by simp [Value.oneCell']) (by omega) (by unfold maxLen; omega) (by omega) (by simp; omega) (w3.heap.size + 1) (by simp) ?_; intro gg cap w4 hown4 hgrow hat hlt4; have e0 : w4.cell? ⟨w1.heap.size, 0, none⟩ = some v := (hgrow.cell_far _ (by simp; omega) (Ne.symm ab)).trans (((bcell ((Below.refl w3.heap.size w3).alloc (Nat.le_refl _) _)).1 _ _ hz3).trans d0); have e1 : w4.cell? ⟨w1.heap.size, 1, none⟩ = some (.int .i64 0) := (hgrow.cell_far _ (by simp; omega) (Ne.symm ab)).trans (((bcell ((Below.refl w3.heap.size w3).alloc (Nat.le_refl _) _)).1 _ _ hz3).trans d1); have ef : ∀ o, w4.frozen? ⟨w1.heap.size, o, none⟩ = false := fun o => (hgrow.frozen_far _ (by simp; omega) (Ne.symm ab)).trans (((bcell ((Below.refl w3.heap.size w3).alloc (Nat.le_refl _) _)).2 _ _ hz3).trans (((bcell A3).2 _ _ hbs).trans (cf o))); have ek : w4.cell? ⟨g, k, none⟩ = some (.string x) := (hgrow.cell_far _ (by simp; omega) (Ne.symm ag)).trans (((bcell ((Below.refl w3.heap.size w3).alloc (Nat.le_refl _) _)).1 _ _ (Nat.lt_of_lt_of_le hgr A3.size)).trans dk); have ef0 := ef 0)
                refine hK.out _ _ ?_ (fun hH4 => ?_)
                · (try dsimp only)
                  first | go_keep | assumption | (rw [World.cell?_setCell_far _ _ _ _ hgb]; assumption)
                clear hK K hH3
                try simp only [Act.put, List.setIfInBounds_toArray, List.set_cons_zero, List.set_cons_succ]
                refine wpAnyH_take (i := 9) (oi := { dst := some 31, op := Op.fieldAddr 37 (Operand.tmp 4) 0, type := 0, pos := "l04_header.go:152", after := #[{ on := 0, ground := Ground.phase }, { on := 1, ground := Ground.phase }, { on := 2, ground := Ground.phase }, { on := 3, ground := Ground.phase }, { on := 4, ground := Ground.phase }, { on := 5, ground := Ground.phase }, { on := 6, ground := Ground.phase }, { on := 7, ground := Ground.phase }, { on := 8, ground := Ground.phase }], guard := none }) (v := ?va7) rfl (by kernel_rfl) (by kernel_rfl) (by kernel_rfl) (fun _ _ _ h => h) (Or.inl ⟨by rfl, ?hya7⟩) (by assumption) ?resta7
                case hya7 =>
                  intro w hSw
                  (try dsimp only at hSw)
                  go_simp
                  try with_reducible rfl
                try simp only [Act.put, List.setIfInBounds_toArray, List.set_cons_zero, List.set_cons_succ]
                refine wpAnyH_ready (rs := [10]) (by kernel_rfl) (by simp) ?_
                refine AllReadyH.cons (o := { dst := none, op := Op.store 33 (Operand.tmp 31) (Operand.tmp 30), type := 0, pos := "l04_header.go:152", after := #[{ on := 9, ground := Ground.data }, { on := 8, ground := Ground.data }, { on := 8, ground := Ground.chain }, { on := 0, ground := Ground.phase }, { on := 1, ground := Ground.phase }, { on := 2, ground := Ground.phase }, { on := 3, ground := Ground.phase }, { on := 4, ground := Ground.phase }, { on := 5, ground := Ground.phase }, { on := 6, ground := Ground.phase }, { on := 7, ground := Ground.phase }, { on := 8, ground := Ground.phase }], guard := none }) rfl (fun K hK => ?_) AllReadyH.nil
                · skip
                  go_simp
                  try (go_wp2_with fail)
                  refine hK.out _ _ ?_ (fun hH5 => ?_)
                  · (try dsimp only)
                    first | go_keep | assumption | (rw [World.cell?_setCell_far _ _ _ _ hgb]; assumption)
                  clear hK K hH4
                  try simp only [Act.put, List.setIfInBounds_toArray, List.set_cons_zero, List.set_cons_succ]
                  refine wpAnyH_done (by kernel_rfl) ?_ _
                  go_wp2
                  go_roundw
                  case rel =>
                    refine ⟨k + 1, _, by omega, by go_num, ⟨World.cell?_setCell_same _ _ _ e0, ?_, ?_, ?_⟩, ?_, ?_⟩
                    · rw [World.cell?_setCell_other _ _ _ _ (by simp)]; exact e1
                    · intro o; rw [World.frozen?_setCell]; exact ef o
                    · have := hgrow.size; simp [World.setCell] at this ⊢; omega
                    · show World.ownsRow _ _ _ _ _ _ _
                      rw [HP.out, ← pairCells_snoc, List.length_append]
                      exact ownsRow_setCell_below hown4 (Nat.lt_succ_self _) _
                    · exact Below.setCell (((HB.out.trans (A3.mono (by omega))).alloc (by omega) _).grown hgrow (by simp; omega) (fun j hj => by have := (HO.out.lt j hj).1; omega)) (Nat.le_refl _) _
                  case measure => simp [intOf]; omega
          · skip
            go_simp
            try (go_wp2_with fail)
            refine hK.out _ _ ?_ (fun hH2 => ?_)
            · (try dsimp only)
              first | go_keep | assumption | (rw [World.cell?_setCell_far _ _ _ _ hgb]; assumption)
            clear hK K hH1
            try simp only [Act.put, List.setIfInBounds_toArray, List.set_cons_zero, List.set_cons_succ]
            refine wpAnyH_ready (rs := [1]) (by kernel_rfl) (by simp) ?_
            refine AllReadyH.cons (o := { dst := some 23, op := Op.load 33 (Operand.tmp 22), type := 33, pos := "l04_header.go:152", after := #[{ on := 0, ground := Ground.data }], guard := none }) rfl (fun K hK => ?_) AllReadyH.nil
            · skip
              go_simp
              try (go_wp2_with fail)
              refine hK.out _ _ ?_ (fun hH3 => ?_)
              · (try dsimp only)
                first | go_keep | assumption | (rw [World.cell?_setCell_far _ _ _ _ hgb]; assumption)
              clear hK K hH2
              try simp only [Act.put, List.setIfInBounds_toArray, List.set_cons_zero, List.set_cons_succ]
              refine wpAnyH_ready (rs := [8]) (by kernel_rfl) (by simp) ?_
              refine AllReadyH.cons (o := { dst := some 30, op := Op.call { callee := Callee.builtin Builtin.append, args := #[Operand.tmp 23, Operand.tmp 29], argTypes := #[33, 33] }, type := 33, pos := "l04_header.go:152", after := #[{ on := 1, ground := Ground.data }, { on := 7, ground := Ground.data }, { on := 6, ground := Ground.chain }], guard := none }) rfl (fun K hK => ?_) AllReadyH.nil
              · skip
                (refine step_append_lies _ (by rfl) _ _ _ (by rfl) (w1.heap.size + 1) 46 i0 (.agg #[.string ⟨#[]⟩, .string ⟨#[]⟩]) 2 32 Tryz.underlying33 hi hy0 hy1 hy2 rfl (by omega) v (readQ L k).length (pairCells (readQ L k)) (by rfl) (O3.out.alloc _) ⟨w3.heap.size, 0, none⟩ 1 1 [.string n1, .string v1] (by rfl) (by rfl) (World.news_of_block (cs := #[.string n1, .string v1]) (t := 46) (fr := (0, 0)) (heap_alloc_new w3 _)) (by simp [Value.oneCell']) (by omega) (by unfold maxLen; omega) (by omega) (by simp; omega) (w3.heap.size + 1) (by simp) ?_; intro gg cap w4 hown4 hgrow hat hlt4; have e0 : w4.cell? ⟨w1.heap.size, 0, none⟩ = some v := (hgrow.cell_far _ (by simp; omega) (Ne.symm ab)).trans (((bcell ((Below.refl w3.heap.size w3).alloc (Nat.le_refl _) _)).1 _ _ hz3).trans d0); have e1 : w4.cell? ⟨w1.heap.size, 1, none⟩ = some (.int .i64 0) := (hgrow.cell_far _ (by simp; omega) (Ne.symm ab)).trans (((bcell ((Below.refl w3.heap.size w3).alloc (Nat.le_refl _) _)).1 _ _ hz3).trans d1); have ef : ∀ o, w4.frozen? ⟨w1.heap.size, o, none⟩ = false := fun o => (hgrow.frozen_far _ (by simp; omega) (Ne.symm ab)).trans (((bcell ((Below.refl w3.heap.size w3).alloc (Nat.le_refl _) _)).2 _ _ hz3).trans (((bcell A3).2 _ _ hbs).trans (cf o))); have ek : w4.cell? ⟨g, k, none⟩ = some (.string x) := (hgrow.cell_far _ (by simp; omega) (Ne.symm ag)).trans (((bcell ((Below.refl w3.heap.size w3).alloc (Nat.le_refl _) _)).1 _ _ (Nat.lt_of_lt_of_le hgr A3.size)).trans dk); have ef0 := ef 0)
                refine hK.out _ _ ?_ (fun hH4 => ?_)
                · (try dsimp only)
                  first | go_keep | assumption | (rw [World.cell?_setCell_far _ _ _ _ hgb]; assumption)
                clear hK K hH3
                try simp only [Act.put, List.setIfInBounds_toArray, List.set_cons_zero, List.set_cons_succ]
                refine wpAnyH_take (i := 9) (oi := { dst := some 31, op := Op.fieldAddr 37 (Operand.tmp 4) 0, type := 0, pos := "l04_header.go:152", after := #[{ on := 0, ground := Ground.phase }, { on := 1, ground := Ground.phase }, { on := 2, ground := Ground.phase }, { on := 3, ground := Ground.phase }, { on := 4, ground := Ground.phase }, { on := 5, ground := Ground.phase }, { on := 6, ground := Ground.phase }, { on := 7, ground := Ground.phase }, { on := 8, ground := Ground.phase }], guard := none }) (v := ?va8) rfl (by kernel_rfl) (by kernel_rfl) (by kernel_rfl) (fun _ _ _ h => h) (Or.inl ⟨by rfl, ?hya8⟩) (by assumption) ?resta8
                case hya8 =>
                  intro w hSw
                  (try dsimp only at hSw)
                  go_simp
                  try with_reducible rfl
                try simp only [Act.put, List.setIfInBounds_toArray, List.set_cons_zero, List.set_cons_succ]
                refine wpAnyH_ready (rs := [10]) (by kernel_rfl) (by simp) ?_
                refine AllReadyH.cons (o := { dst := none, op := Op.store 33 (Operand.tmp 31) (Operand.tmp 30), type := 0, pos := "l04_header.go:152", after := #[{ on := 9, ground := Ground.data }, { on := 8, ground := Ground.data }, { on := 8, ground := Ground.chain }, { on := 0, ground := Ground.phase }, { on := 1, ground := Ground.phase }, { on := 2, ground := Ground.phase }, { on := 3, ground := Ground.phase }, { on := 4, ground := Ground.phase }, { on := 5, ground := Ground.phase }, { on := 6, ground := Ground.phase }, { on := 7, ground := Ground.phase }, { on := 8, ground := Ground.phase }], guard := none }) rfl (fun K hK => ?_) AllReadyH.nil
                · skip
                  go_simp
                  try (go_wp2_with fail)
                  refine hK.out _ _ ?_ (fun hH5 => ?_)
                  · (try dsimp only)
                    first | go_keep | assumption | (rw [World.cell?_setCell_far _ _ _ _ hgb]; assumption)
                  clear hK K hH4
                  try simp only [Act.put, List.setIfInBounds_toArray, List.set_cons_zero, List.set_cons_succ]
                  refine wpAnyH_done (by kernel_rfl) ?_ _
                  go_wp2
                  go_roundw
                  case rel =>
                    refine ⟨k + 1, _, by omega, by go_num, ⟨World.cell?_setCell_same _ _ _ e0, ?_, ?_, ?_⟩, ?_, ?_⟩
                    · rw [World.cell?_setCell_other _ _ _ _ (by simp)]; exact e1
                    · intro o; rw [World.frozen?_setCell]; exact ef o
                    · have := hgrow.size; simp [World.setCell] at this ⊢; omega
                    · show World.ownsRow _ _ _ _ _ _ _
                      rw [HP.out, ← pairCells_snoc, List.length_append]
                      exact ownsRow_setCell_below hown4 (Nat.lt_succ_self _) _
                    · exact Below.setCell (((HB.out.trans (A3.mono (by omega))).alloc (by omega) _).grown hgrow (by simp; omega) (fun j hj => by have := (HO.out.lt j hj).1; omega)) (Nat.le_refl _) _
                  case measure => simp [intOf]; omega
      · obtain rfl : k = L.length := by omega
        have SP : Hid (SliceP wr (w1.heap.size + 1) v (readQ L L.length)) := sliceP_of_own HO.out
        have BW : Hid (Below w.heap.size w wr) := B1.out.trans (HB.out.mono B1.out.size)
        have KT : Hid (Calls Tryz.prog 19 #[v] wr fun e w' => e = .returned (.string (pairsT (readQ L L.length))) ∧ Below wr.heap.size wr w') := specPairsText_any v _ _ wr SP.out (by omega) HRS.out
        have cf0 := cf 0
        generalize readQ L L.length = P at *
        generalize pairsT P = tx at *
        go_wp2_with fail
        refine KT.out.mono ?_
        rintro e w5 ⟨rfl, hb5⟩
        have S5 : Hid (SliceP w5 (w1.heap.size + 1) v P) := SliceR.below SP.out hb5
        have B5 : Hid (Below w1.heap.size w1 w5) := HB.out.trans (hb5.mono (by omega))
        have BW5 : Hid (Below w.heap.size w w5) := BW.out.trans (hb5.mono BW.out.size)
        have d0 : w5.cell? ⟨w1.heap.size, 0, none⟩ = some v := by rw [(bcell hb5).1 _ _ hbs]; exact c0
        have d1 : w5.cell? ⟨w1.heap.size, 1, none⟩ = some (.int .i64 0) := by rw [(bcell hb5).1 _ _ hbs]; exact c1
        clear hb5 KT SP c0 c1 cf cf0
        obtain ⟨g0, g1, gf⟩ := HGf.out w5 B5.out
        have FB : Hid (∀ a b, Below w.heap.size w ((w5.setCell ⟨w.heap.size, 0, none⟩ a).setCell ⟨w.heap.size, 1, none⟩ b)) := fun a b => (BW5.out.setCell (Nat.le_refl _) _).setCell (Nat.le_refl _) _
        have FS : Hid (∀ a b, SliceP ((w5.setCell ⟨w.heap.size, 0, none⟩ a).setCell ⟨w.heap.size, 1, none⟩ b) w.heap.size v P) := fun a b => by
          obtain ⟨p, cap, rfl, hh⟩ := S5.out
          refine ⟨p, cap, rfl, fun hn => ?_⟩
          obtain ⟨g, rfl, hB, hg, hc⟩ := hh hn
          refine ⟨g, rfl, by omega, by simpa [World.setCell] using hg, fun j hj o ho => ⟨?_, ?_⟩⟩
          · rw [World.cell?_setCell_far _ _ _ _ (by show ¬ w.heap.size = g; omega), World.cell?_setCell_far _ _ _ _ (by show ¬ w.heap.size = g; omega)]
            exact (hc j hj o ho).1
          · rw [World.frozen?_setCell, World.frozen?_setCell]; exact (hc j hj o ho).2
        obtain ⟨pP, cP, rfl, -⟩ := S5.out
        cases hq : (tx.toList == t.toList) with
        | true =>
          have HR : Hid (R = (P, 0)) := by show _ = _; rw [HR0.out, hq]; rfl
          go_wp2
          exact bodyPost_ret (v := .agg #[.slice pP P.length cP, .int .i64 0]) (by simp [results, Tryz.results21, go_sem, g0, g1]) rfl ⟨.slice pP P.length cP, by rw [HR.out], by rw [HR.out]; exact FS.out _ _, FB.out _ _⟩
        | false =>
          have HR : Hid (R = ([], 3)) := by show _ = _; rw [HR0.out, hq]; rfl
          go_wp2
          exact bodyPost_ret (v := .agg #[.slice none 0 0, .int .i64 3]) (by simp [results, Tryz.results21, go_sem, g0, g1]) rfl ⟨.slice none 0 0, by rw [HR.out], by rw [HR.out]; exact HN.out _ _ _ _, FB.out _ _⟩
end Go.Proofs.YthcpmbolnmlohaaGreatDoor

/- A slice of bytes that came in, as a law's frame opens it, is a row of a code. -/
namespace Go.Proofs.YthcpmbolnmlohaaGreatDoor
open Go.ChangeShapes Go.WideShapes Go.ChangeAt Go.RowKit

theorem codeRow_of {H : Type} {enc : TypeId × Value → H} {W : World} {a : Option Addr} {len cap : Nat} {d : DataW H} {p : List MemPlace}
    (h : ∃ fuel, DataW.trod enc Tryz.prog W 0 (fun _ => true) true fuel 22 (Value.slice a len cap).cells.toList = some (d, p)) : CodeRow W a len := by
  obtain ⟨fuel, hf⟩ := h
  rcases open_ints Tryz.underlying22 Tryz.underlying5 (by kernel_rfl) hf with ⟨hcs, _⟩ | ⟨x, l, c, zs, hcs, _, hl, hm, hz, _, hcell, hwz⟩
  · simp [Value.cells] at hcs
    obtain ⟨rfl, rfl, rfl⟩ := hcs
    exact fun i hi => absurd hi (by omega)
  · simp [Value.cells] at hcs
    obtain ⟨rfl, rfl, rfl⟩ := hcs
    intro i hi
    have hz2 : zs.length = cap := by simpa using hz
    have hc := hcell i (by omega)
    have hb := hwz (zs.getD i 0) (by simp [List.getD, show i < zs.length by omega])
    generalize zs.getD i 0 = z at hb hc
    have hbb : 0 ≤ z ∧ z < 256 := by
      simp [Lit.wf, IntKind.min, IntKind.max, IntKind.signed, IntKind.bits] at hb
      omega
    refine ⟨_, _, rfl, ?_, hc, hbb.1, hbb.2⟩
    have : (x.add i).block < W.heap.size := by
      by_cases h : (x.add i).block < W.heap.size
      · exact h
      · exfalso
        simp [World.cell?, Array.getElem?_eq_none (show W.heap.size ≤ (x.add i).block by omega)] at hc
    have e : (x.add i).block = x.block := by
      unfold Addr.add; split
      · rfl
      · rfl
    rw [e] at this; exact this
end Go.Proofs.YthcpmbolnmlohaaGreatDoor

/- The lifting of a law's walk to a row that lists package-level variables, the world's shape kept; what the shape and the list give a walk. -/
namespace Go.Proofs.YthcpmbolnmlohaaGreatDoor
open Go.RowKit

theorem Ld.own : ownKnob Tryz.prog.godebug = none := by kernel_rfl
theorem Ld.laidOut : laidOutB Tryz.prog = true := by kernel_rfl
set_option maxRecDepth 10000 in
theorem lift_laid {H : Type} {enc : TypeId × Value → H} {os : Os} {f : FuncId} {fn : Func} {s : ChangeSpec} {X : World → Prop} (hX : ∀ (w w' : World), w.heap = w'.heap → X w → X w')
    (started : os.Started) (noInit : Tryz.prog.inits.idxOf? f = none) (hfn : Tryz.prog.funcs[f]? = some fn)
    (start : ∃ (w : World) (tape : Tape) (i : Input), w.os = os ∧ (w.forCall tape i).Shaped Tryz.prog ∧ i.vars = [] ∧ Input.okWide Tryz.prog (w.forCall tape i) .any w.heap.size f i ∧
      ((s.pre enc Tryz.prog fn [] false (w.forCall tape i).memory i.args ∧ X (w.forCall tape i).memory) ∧ sizedMet enc Tryz.prog fn (OpenSpec.ofChange s) false (w.forCall tape i).memory i.args) ∧ Assume.holds {} Tryz.prog (lone (Frame.enter Tryz.prog f i.args .normal) [] (w.forCall tape i)))
    (walk : ∀ (W : World) (base : Nat) (args : Array Value) (ds gs : List (DataW H)) (before : List MemPlace),
      (∀ (j : Nat) t v, fn.params[j]? = some t → args[j]? = some v → Value.okWide Tryz.prog W .any base t v) →
      DataW.Whole enc Tryz.prog fn.params.toList s.vars false W args.toList ds gs before → X W → W.ShapedOpen Tryz.prog →
      Calls Tryz.prog f args W fun e W' => ∃ v, e = .returned v ∧ s.post enc Tryz.prog fn false true false false W args v W') :
    ReturnsInHanded {} Tryz.checked os f .any (fun w args => (s.pre enc Tryz.prog fn [] false w args ∧ X w) ∧ sizedMet enc Tryz.prog fn (OpenSpec.ofChange s) false w args) (s.post enc Tryz.prog fn false true false false) := by
  refine returnsInHanded_of_calls (C := Tryz.checked) Ld.own started noInit start ?_
  intro w tape i _ hsh _ hok hpre _
  obtain ⟨_, _, _, fn2, hfn2, _, _, _, _, hval⟩ := hok
  obtain rfl : fn2 = fn := Option.some.inj (hfn2.symm.trans hfn)
  obtain ⟨⟨⟨ds, gs, before, hw, _⟩, hx⟩, _⟩ := hpre
  have hw2 := DataW.Whole.of_heap (w' := w.forCall tape i) (by rfl) hw
  refine (walk (w.forCall tape i) w.heap.size i.args ds gs before hval hw2 (hX _ _ (by rfl) hx) hsh).mono fun e W' ⟨v, he, hp⟩ => ?_
  subst he
  exact ChangeSpec.post_blind hp
set_option maxRecDepth 10000 in
theorem maxI_of_shape {W : World} (h : W.ShapedOpen Tryz.prog) : MaxI W := Tryz.lays146.s1_3 W h
set_option maxRecDepth 10000 in
theorem Ld.pow : (Rows.laid_internal_strconv_uint64pow10 : DataW Unit) = Lib.tabData .u64 Lib.pow10Tab := by kernel_rfl
set_option maxRecDepth 10000 in
theorem pow_of_laid {W : World} {l : List (String × DataW Unit)} {a b : String × DataW Unit} {r : List (String × DataW Unit)} (hh : (l.all fun x => x.2.handleName?.isNone) = true)
    (hl : l = a :: b :: ("internal/strconv.uint64pow10", Rows.laid_internal_strconv_uint64pow10) :: r) (h : laidMetH Tryz.prog l W) : Lib.TabIs Tryz.prog W "internal/strconv.uint64pow10" .u64 Lib.pow10Tab := by
  rw [MakeChecks.laidMetH_plain _ _ _ hh, hl, Ld.pow] at h
  exact Lib.tabIs_of_head (g := 0) (t := 97) (e := 62) (n := 20) (by kernel_rfl) (by kernel_rfl) Tryz.underlying97 Tryz.underlying62 (by kernel_rfl) (by kernel_rfl) h.tail.tail
end Go.Proofs.YthcpmbolnmlohaaGreatDoor

/- What a row's list of package-level variables gives a walk: the program's words of kinds, the library's two errors; a listed variable that reads behind the call as before it. -/
namespace Go.Proofs.YthcpmbolnmlohaaGreatDoor
open Go.RowKit Go.ChangeShapes

theorem plain_of {l : List (String × DataW Unit)} {W : World} (hh : (l.all fun x => x.2.handleName?.isNone) = true) (h : laidMetH Tryz.prog l W) : laidMet Tryz.prog l W := by
  rw [MakeChecks.laidMetH_plain _ _ _ hh] at h; exact h
/-- a listed variable of an interface type holds a value of some type -/
theorem iface_of_met {P : Program} {W : World} {n nm : String} {d : DataW Unit} {r : List (String × DataW Unit)} {g : Nat} {ti : TypeId} {ms : Array (String × TypeId)} (h : laidMet P ((n, .iface nm d) :: r) W)
    (hg : P.globalNamed n = some g) (ht : (P.globals[g]?).map (·.type) = some ti) (hi : P.underlying ti = some (.interface ms)) : ∃ u v, W.cell? ⟨g, 0, none⟩ = some (.iface u v) := by
  obtain ⟨ps, ⟨g0, t0, cs0, f0, p0, q0, hg0, ht0, hv0, hd0, _, _⟩, _, _⟩ := h
  obtain rfl := Option.some.inj (hg.symm.trans hg0)
  obtain rfl := Option.some.inj (ht.symm.trans ht0)
  obtain ⟨_, u, v, hc, _, _⟩ := iface_of_trod hi hd0
  refine ⟨u, v, ?_⟩
  rw [World.var?_cell hg0 hv0 0, ← Array.getElem?_toList, hc]
  rfl
/-- one listed variable reads on -/
theorem vars_on {H : Type} {enc : TypeId × Value → H} {n : String} {g : Nat} {t : TypeId} {cs : Array Value} {fuel : Nat} {d : DataW H} {p : List MemPlace} {W W' : World}
    (hr : Tryz.prog.readableRec t = true) (hrow : t < Tryz.prog.types.size) (hg : Tryz.prog.globalNamed n = some g) (ht : (Tryz.prog.globals[g]?).map (·.type) = some t) (hv : W.var? Tryz.prog n = some cs) (hlt : g < W.heap.size)
    (hd : DataW.trod enc Tryz.prog W 0 (fun _ => true) true fuel t cs.toList = some (d, p)) (hb : Below W.heap.size W W') :
    DataW.TrodVars enc Tryz.prog W' (fun b => decide (b < W.heap.size)) [n] [d] (MemPlace.row ⟨g, 0, none⟩ cs.size ++ p) := by
  have k : DataW.Trod enc Tryz.prog W 0 (fun _ => true) true t (.agg cs) d p := ⟨fuel, hd⟩
  obtain ⟨f', hd'⟩ := Below.trod Ld.laidOut hr hrow k hb (DataW.trod_lt fuel _ _ _ hd)
  exact trodVars_mk1 hg ht (var?_below hb hg hlt hv) hd'
theorem var_lt {P : Program} {W : World} {n : String} {g : Nat} {cs : Array Value} (hg : P.globalNamed n = some g) (hv : W.var? P n = some cs) : g < W.heap.size := by
  unfold World.var? at hv
  simp only [hg, Option.bind_some] at hv
  by_cases h : g < W.heap.size
  · exact h
  · rw [Array.getElem?_eq_none (by omega)] at hv; simp at hv
end Go.Proofs.YthcpmbolnmlohaaGreatDoor
