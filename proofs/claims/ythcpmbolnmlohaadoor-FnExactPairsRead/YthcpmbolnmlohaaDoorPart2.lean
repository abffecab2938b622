/- 5 of this claim's texts, one behind the other. -/
import Derived.Deep.DeepCutAuto
import Derived.Test.YthcpmbolnmlohaaDoorPart1
import Derived.Deep.AppendLies
import Derived.Deep.RegionHeld3
import Derived.Laws.ResultCell
import Derived.WalkKit
import Derived.WalkSpells
import Derived.WalkLawsBesides
/- The walk of the specification's PairsRead. -/
namespace Go.Proofs.YthcpmbolnmlohaaDoor
open Go.RowKit

theorem infoPairS : (Tryd.prog.info? 64).map (fun i => (i.zero, i.size, i.bytes)) = some (some (.agg #[.string ⟨#[]⟩, .string ⟨#[]⟩]), 2, 32) := by kernel_rfl
/-- the pairs of the first k pieces -/
def readQ (L : List ByteArray) (k : Nat) : List (ByteArray × ByteArray) := (L.take k).map pairP
theorem readQ_succ {L : List ByteArray} {k : Nat} (h : k < L.length) : readQ L (k + 1) = readQ L k ++ [((pairP (atL L k)).1, (pairP (atL L k)).2)] := by
  have e : atL L k = L[k] := by simp [atL, h]
  unfold readQ
  rw [List.take_succ_eq_append_getElem h, List.map_append, e]; rfl
theorem readQ_len (L : List ByteArray) (k : Nat) : (readQ L k).length ≤ k := by unfold readQ; simp; omega
theorem readQ_small {t : ByteArray} (i : Nat) (h : i < (readQ (piecesL t) (piecesL t).length).length) : (atP (readQ (piecesL t) (piecesL t).length) i).1.size ≤ t.size ∧ (atP (readQ (piecesL t) (piecesL t).length) i).2.size ≤ t.size := by
  have hm := List.getElem_mem h
  rw [← atP_eq h] at hm
  unfold readQ at hm ⊢
  obtain ⟨x, hx, e⟩ := List.mem_map.1 hm
  rw [← e]
  have h1 := pairP_size x
  have h2 := piecesL_small t x (List.mem_of_mem_take hx)
  omega
theorem after_drew {w w' : World} (h : Below w.drew.heap.size w.drew w') : Below w.heap.size w w' := (Below.drew (Below.refl _ _)).trans h
theorem own_value {w : World} {B n sz : Nat} {e : TypeId} {v : Value} {xs : List Value} (h : w.ownsRow B e sz v n xs) : ∃ p c, v = .slice p n c := by
  obtain ⟨_, ⟨rfl, rfl⟩ | ⟨g, cap, _, rfl, _⟩⟩ := h
  · exact ⟨_, _, rfl⟩
  · exact ⟨_, _, rfl⟩
set_option maxRecDepth 10000 in
set_option maxHeartbeats 8000000 in
theorem specPairsRead_any (t : ByteArray) (w : World) :
    Calls Tryd.prog 25 #[.string t] w fun e w' => ∃ v, e = .returned (.agg #[v, .int .i64 (pairsGot t).2]) ∧ SliceP w' w.heap.size v (pairsGot t).1 ∧ Below w.heap.size w w' := by
  have HN : Hid (∀ (W : World) (B : Nat) (p : Option Addr) (c : Nat), SliceP W B (.slice p 0 c) []) := fun W B p c => sliceR_none W B 2 p c _
  by_cases h8 : 8000 < t.size
  · have HR : Hid (pairsGot t = ([], 2)) := by show _ = _; unfold pairsGot; rw [if_pos h8]
    generalize pairsGot t = R at *
    go_enter Tryd.func25, Tryd.ntmps25
    go_wp2
    exact bodyPost_ret (v := .agg #[.slice none 0 0, .int .i64 2]) (by simp [results, Tryd.results25, go_sem]) rfl ⟨.slice none 0 0, by rw [HR.out], by rw [HR.out]; exact HN.out _ _ _ _, (Below.refl _ _).alloc (Nat.le_refl _) _⟩
  have q8 : decide ((8000 : Int) < (t.size : Int)) = false := by rw [decide_eq_false_iff_not]; omega
  cases ht : t.toList.isEmpty with
  | true =>
    have HR : Hid (pairsGot t = ([], 0)) := by show _ = _; unfold pairsGot; rw [if_neg h8, if_pos ht]
    generalize pairsGot t = R at *
    go_enter Tryd.func25, Tryd.ntmps25
    go_wp2
    exact bodyPost_ret (v := .agg #[.slice none 0 0, .int .i64 0]) (by simp [results, Tryd.results25, go_sem]) rfl ⟨.slice none 0 0, by rw [HR.out], by rw [HR.out]; exact HN.out _ _ _ _, (Below.refl _ _).alloc (Nat.le_refl _) _⟩
  | false =>
    have HR0 : Hid (pairsGot t = if ((pairsT (readQ (piecesL t) (piecesL t).length)).toList == t.toList) = true then (readQ (piecesL t) (piecesL t).length, 0) else ([], 3)) := by
      show _ = _
      unfold pairsGot readQ
      rw [if_neg h8, if_neg (by rw [ht]; decide), List.take_length]
    have KS : Hid (∀ W, Calls Tryd.prog 56 #[.string t] W fun e w' => ∃ v, e = .returned v ∧ w'.ownsRow W.heap.size 9 1 v (piecesL t).length (strCells (piecesL t)) ∧ Below W.heap.size W w') := fun W => specPieces_any t W (by omega)
    have hlen := piecesL_len t
    have HSM : Hid (∀ i, i < (piecesL t).length → (atL (piecesL t) i).size ≤ 1048576) := fun i hi => by
      have e : atL (piecesL t) i = (piecesL t)[i] := by simp [atL, hi]
      rw [e]; have := piecesL_small t _ (List.getElem_mem hi); omega
    have HRS : Hid (∀ i, i < (readQ (piecesL t) (piecesL t).length).length → (atP (readQ (piecesL t) (piecesL t).length) i).1.size ≤ 1048576 ∧ (atP (readQ (piecesL t) (piecesL t).length) i).2.size ≤ 1048576) := fun i hi => by
      have := readQ_small i hi; omega
    obtain ⟨i0, hi, hy0, hy1, hy2⟩ := info_parts infoPairS
    generalize pairsGot t = R at *
    generalize piecesL t = L at *
    have hL : L.length ≤ 8001 := by omega
    clear hlen
    have W0 : Hid (∀ o, Below w.heap.size w (w.alloc o)) := fun o => (Below.refl _ _).alloc (Nat.le_refl _) _
    go_enter Tryd.func25, Tryd.ntmps25
    go_wp2_with fail
    refine (KS.out _).mono ?_
    rintro e w1 ⟨vL, rfl, ho, hb1⟩
    have z1 : w.heap.size < w1.heap.size := by have := hb1.size; simp at this; omega
    have g0 : w1.cell? ⟨w.heap.size, 0, none⟩ = some (.slice none 0 0) := by rw [(bcell hb1).1 _ _ (by simp)]; simp
    have g1 : w1.cell? ⟨w.heap.size, 1, none⟩ = some (.int .i64 0) := by rw [(bcell hb1).1 _ _ (by simp)]; simp
    have gf : ∀ o, w1.frozen? ⟨w.heap.size, o, none⟩ = false := fun o => by rw [(bcell hb1).2 _ _ (by simp)]; simp
    have B1 : Hid (Below w.heap.size w w1) := (W0.out _).trans (hb1.mono (by simp))
    have HGf : Hid (∀ (W : World), Below w1.heap.size w1 W → W.cell? ⟨w.heap.size, 0, none⟩ = some (.slice none 0 0) ∧ W.cell? ⟨w.heap.size, 1, none⟩ = some (.int .i64 0) ∧ ∀ o, W.frozen? ⟨w.heap.size, o, none⟩ = false) := fun W hb => ⟨by rw [(bcell hb).1 _ _ z1]; exact g0, by rw [(bcell hb).1 _ _ z1]; exact g1, fun o => by rw [(bcell hb).2 _ _ z1]; exact gf o⟩
    have SL : Hid (SliceS w1 0 vL L.length (atL L)) := (slice_of_own ho).mono (Nat.zero_le _)
    clear ho hb1 g0 g1 gf KS W0
    obtain ⟨pL, cL, rfl, hgL⟩ := SL.out
    have HGL : Hid (0 < L.length → ∃ g, pL = some ⟨g, 0, none⟩ ∧ g < w1.heap.size ∧ ∀ j, j < L.length → w1.cell? ⟨g, j, none⟩ = some (.string (atL L j))) := fun h => by
      obtain ⟨g, e, -, hg, hc⟩ := hgL h
      exact ⟨g, e, hg, fun j hj => (hc j hj).1⟩
    clear hgL SL
    have M0 : Hid ((w1.alloc (.cells #[.slice none 0 0, .int .i64 0] 43)).cell? ⟨w1.heap.size, 0, none⟩ = some (.slice none 0 0) ∧ (w1.alloc (.cells #[.slice none 0 0, .int .i64 0] 43)).cell? ⟨w1.heap.size, 1, none⟩ = some (.int .i64 0) ∧ (∀ o, (w1.alloc (.cells #[.slice none 0 0, .int .i64 0] 43)).frozen? ⟨w1.heap.size, o, none⟩ = false) ∧ w1.heap.size + 1 ≤ (w1.alloc (.cells #[.slice none 0 0, .int .i64 0] 43)).heap.size ∧ Below w1.heap.size w1 (w1.alloc (.cells #[.slice none 0 0, .int .i64 0] 43))) := ⟨by simp, by simp, by simp, by simp, (Below.refl _ _).alloc (Nat.le_refl _) _⟩
    go_upto_region 7 with fail
    generalize w1.alloc (.cells #[.slice none 0 0, .int .i64 0] 43) = w2 at *
    go_wp2
    go_loopw [5] (fun i wr => ∃ (k : Nat) (v : Value), k ≤ L.length ∧ i = .int .i64 k ∧ Hid (wr.cell? ⟨w1.heap.size, 0, none⟩ = some v ∧ wr.cell? ⟨w1.heap.size, 1, none⟩ = some (.int .i64 0) ∧ (∀ o, wr.frozen? ⟨w1.heap.size, o, none⟩ = false) ∧ w1.heap.size + 1 ≤ wr.heap.size) ∧ Hid (wr.ownsRow (w1.heap.size + 1) 64 2 v (readQ L k).length (pairCells (readQ L k))) ∧ Hid (Below w1.heap.size w1 wr)) (fun i _ => L.length - (intOf i).toNat)
    case atStart => exact ⟨0, _, Nat.zero_le _, rfl, ⟨M0.out.1, M0.out.2.1, M0.out.2.2.1, M0.out.2.2.2.1⟩, World.ownsRow_nil _ _ _ _, M0.out.2.2.2.2⟩
    case round =>
      obtain ⟨k, v, hk, rfl, HC, HO, HB⟩ := hrel
      have hpl := readQ_len L k
      have hbs : w1.heap.size + 1 ≤ wr.heap.size := HC.out.2.2.2
      have c0 := HC.out.1
      have c1 := HC.out.2.1
      have cf := HC.out.2.2.1
      have cf0 := cf 0
      by_cases hlt : k < L.length
      · obtain ⟨g, rfl, hgw, hcL⟩ := HGL.out (by omega)
        have ck : wr.cell? ⟨g, k, none⟩ = some (.string (atL L k)) := by rw [(bcell HB.out).1 _ _ hgw]; exact hcL k hlt
        have k0 : (0 : Int) ≤ k := by omega
        have k1 : (k : Int) < L.length := by omega
        have KP : Hid (∀ W, Calls Tryd.prog 57 #[.string (atL L k)] W fun e w' => e = .returned (.agg #[.string (pairP (atL L k)).1, .string (pairP (atL L k)).2]) ∧ Below W.heap.size W w') := fun W => specPair_any _ W (HSM.out k hlt)
        have HP : Hid (readQ L (k + 1) = readQ L k ++ [((pairP (atL L k)).1, (pairP (atL L k)).2)]) := readQ_succ hlt
        have ab : v.ownBlock ≠ some w1.heap.size := fun e => by have := (HO.out.lt _ e).1; omega
        have ag : v.ownBlock ≠ some g := fun e => by have := (HO.out.lt _ e).1; omega
        clear hcL
        generalize (pairP (atL L k)).1 = n1 at *
        generalize (pairP (atL L k)).2 = v1 at *
        generalize atL L k = x at *
        have hlr : (readQ L k).length + 1 ≤ 8002 := by omega
        have hgr : g < wr.heap.size := by omega
        go_wp2_with fail
        have hgb : ¬ w1.heap.size = g := by omega
        refine wp_region_held_drew (S := (fun w' => w'.cell? ⟨g, k, none⟩ = some (.string x))) (by kernel_rfl) ?_ (fun hH0 => ?_)
        · (try dsimp only)
          first | go_keep | assumption | (rw [World.cell?_setCell_far _ _ _ _ hgb]; assumption)
        refine wpAnyH_take (i := 0) (oi := { dst := some 22, op := Op.fieldAddr 43 (Operand.tmp 4) 0, type := 0, pos := "l04_header.go:152", after := #[], guard := none }) (v := ?va1) rfl (by kernel_rfl) (by kernel_rfl) (by kernel_rfl) (fun _ _ _ h => h) (Or.inl ⟨by rfl, ?hya1⟩) (by assumption) ?resta1
        case hya1 =>
          intro w hSw
          (try dsimp only at hSw)
          go_simp
          try with_reducible rfl
        try simp only [Act.put, List.setIfInBounds_toArray, List.set_cons_zero, List.set_cons_succ]
        refine wpAnyH_take (i := 2) (oi := { dst := some 24, op := Op.move (Operand.tmp 3), type := 52, pos := "l04_header.go:152", after := #[], guard := none }) (v := ?va2) rfl (by kernel_rfl) (by kernel_rfl) (by kernel_rfl) (fun _ _ _ h => h) (Or.inl ⟨by rfl, ?hya2⟩) (by assumption) ?resta2
        case hya2 =>
          intro w hSw
          (try dsimp only at hSw)
          go_simp
          try with_reducible rfl
        try simp only [Act.put, List.setIfInBounds_toArray, List.set_cons_zero, List.set_cons_succ]
        refine wpAnyH_take (i := 3) (oi := { dst := some 25, op := Op.move (Operand.tmp 5), type := 3, pos := "l04_header.go:152", after := #[], guard := none }) (v := ?va3) rfl (by kernel_rfl) (by kernel_rfl) (by kernel_rfl) (fun _ _ _ h => h) (Or.inl ⟨by rfl, ?hya3⟩) (by assumption) ?resta3
        case hya3 =>
          intro w hSw
          (try dsimp only at hSw)
          go_simp
          try with_reducible rfl
        try simp only [Act.put, List.setIfInBounds_toArray, List.set_cons_zero, List.set_cons_succ]
        refine wpAnyH_take (i := 4) (oi := { dst := some 26, op := Op.indexAddr 52 (Operand.tmp 24) (Operand.tmp 25), type := 0, pos := "l04_header.go:152", after := #[{ on := 2, ground := Ground.data }, { on := 3, ground := Ground.data }], guard := none }) (v := ?va4) rfl (by kernel_rfl) (by kernel_rfl) (by kernel_rfl) (fun _ _ _ h => h) (Or.inl ⟨by rfl, ?hya4⟩) (by assumption) ?resta4
        case hya4 =>
          intro w hSw
          (try dsimp only at hSw)
          go_simp
          try with_reducible rfl
        try simp only [Act.put, List.setIfInBounds_toArray, List.set_cons_zero, List.set_cons_succ]
        refine wpAnyH_take (i := 5) (oi := { dst := some 27, op := Op.load 9 (Operand.tmp 26), type := 9, pos := "l04_header.go:152", after := #[{ on := 4, ground := Ground.data }], guard := none }) (v := ?va5) rfl (by kernel_rfl) (by kernel_rfl) (by kernel_rfl) (fun _ _ _ h => h) (Or.inl ⟨by rfl, ?hya5⟩) (by assumption) ?resta5
        case hya5 =>
          intro w hSw
          (try dsimp only at hSw)
          go_simp
          try with_reducible rfl
        try simp only [Act.put, List.setIfInBounds_toArray, List.set_cons_zero, List.set_cons_succ]
        refine wpAnyH_ready (rs := [1, 6]) (by kernel_rfl) (by simp) ?_
        refine AllReadyH.cons (o := { dst := some 23, op := Op.load 41 (Operand.tmp 22), type := 41, pos := "l04_header.go:152", after := #[{ on := 0, ground := Ground.data }], guard := none }) rfl (fun K hK => ?_) (AllReadyH.cons (o := { dst := some 28, op := Op.call { callee := Callee.value (Operand.func 57), args := #[Operand.tmp 27], argTypes := #[9] }, type := 64, pos := "l04_header.go:152", after := #[{ on := 5, ground := Ground.data }], guard := none }) rfl (fun K hK => ?_) AllReadyH.nil)
        · skip
          go_simp
          try (go_wp2_with fail)
          refine hK.out _ _ ?_ (fun hH1 => ?_)
          · (try dsimp only)
            first | go_keep | assumption | (rw [World.cell?_setCell_far _ _ _ _ hgb]; assumption)
          clear hK K hH0
          try simp only [Act.put, List.setIfInBounds_toArray, List.set_cons_zero, List.set_cons_succ]
          refine wpAnyH_ready (rs := [6]) (by kernel_rfl) (by simp) ?_
          refine AllReadyH.cons (o := { dst := some 28, op := Op.call { callee := Callee.value (Operand.func 57), args := #[Operand.tmp 27], argTypes := #[9] }, type := 64, pos := "l04_header.go:152", after := #[{ on := 5, ground := Ground.data }], guard := none }) rfl (fun K hK => ?_) AllReadyH.nil
          · skip
            go_simp
            (go_at_call 57; refine (KP.out _).mono ?_; rintro e w3 ⟨rfl, hb3⟩; have A3 : Below wr.heap.size wr w3 := after_drew hb3; have hz3 : w1.heap.size + 1 ≤ w3.heap.size := Nat.le_trans hbs A3.size; have d0 : w3.cell? ⟨w1.heap.size, 0, none⟩ = some v := ((bcell A3).1 _ _ hbs).trans c0; have d1 : w3.cell? ⟨w1.heap.size, 1, none⟩ = some (.int .i64 0) := ((bcell A3).1 _ _ hbs).trans c1; have df : w3.frozen? ⟨w1.heap.size, 0, none⟩ = false := ((bcell A3).2 _ _ hbs).trans (cf 0); have dk : w3.cell? ⟨g, k, none⟩ = some (.string x) := ((bcell A3).1 _ _ hgr).trans ck; have O3 : Hid (w3.ownsRow (w1.heap.size + 1) 64 2 v (readQ L k).length (pairCells (readQ L k))) := ownR_below HO.out A3; have da : ∀ o, (w3.alloc o).cell? ⟨w1.heap.size, 0, none⟩ = some v := fun o => ((bcell ((Below.refl w3.heap.size w3).alloc (Nat.le_refl _) o)).1 _ _ hz3).trans d0; clear hb3)
            try (go_wp2_with fail)
            refine hK.out _ _ ?_ (fun hH2 => ?_)
            · (try dsimp only)
              first | go_keep | assumption | (rw [World.cell?_setCell_far _ _ _ _ hgb]; assumption)
            clear hK K hH1
            try simp only [Act.put, List.setIfInBounds_toArray, List.set_cons_zero, List.set_cons_succ]
            refine wpAnyH_ready (rs := [7]) (by kernel_rfl) (by simp) ?_
            refine AllReadyH.cons (o := { dst := some 29, op := Op.buildSlice 41 1 #[(0, Operand.tmp 28)], type := 41, pos := "l04_header.go:152", after := #[{ on := 6, ground := Ground.data }], guard := none }) rfl (fun K hK => ?_) AllReadyH.nil
            · skip
              go_simp
              try (go_wp2_with fail)
              refine hK.out _ _ ?_ (fun hH3 => ?_)
              · (try dsimp only)
                first | go_keep | assumption | (rw [World.cell?_setCell_far _ _ _ _ hgb]; assumption)
              clear hK K hH2
              try simp only [Act.put, List.setIfInBounds_toArray, List.set_cons_zero, List.set_cons_succ]
              refine wpAnyH_ready (rs := [8]) (by kernel_rfl) (by simp) ?_
              refine AllReadyH.cons (o := { dst := some 30, op := Op.call { callee := Callee.builtin Builtin.append, args := #[Operand.tmp 23, Operand.tmp 29], argTypes := #[41, 41] }, type := 41, pos := "l04_header.go:152", after := #[{ on := 1, ground := Ground.data }, { on := 7, ground := Ground.data }, { on := 6, ground := Ground.chain }], guard := none }) rfl (fun K hK => ?_) AllReadyH.nil
              · skip
                (refine step_append_lies _ (by rfl) _ _ _ (by rfl) (w1.heap.size + 1) 64 i0 (.agg #[.string ⟨#[]⟩, .string ⟨#[]⟩]) 2 32 Tryd.underlying41 hi hy0 hy1 hy2 rfl (by omega) v (readQ L k).length (pairCells (readQ L k)) (by rfl) (O3.out.alloc _) ⟨w3.heap.size, 0, none⟩ 1 1 [.string n1, .string v1] (by rfl) (by rfl) (World.news_of_block (cs := #[.string n1, .string v1]) (t := 64) (fr := (0, 0)) (heap_alloc_new w3 _)) (by simp [Value.oneCell']) (by omega) (by unfold maxLen; omega) (by omega) (by simp; omega) (w3.heap.size + 1) (by simp) ?_; intro gg cap w4 hown4 hgrow hat hlt4; have e0 : w4.cell? ⟨w1.heap.size, 0, none⟩ = some v := (hgrow.cell_far _ (by simp; omega) (Ne.symm ab)).trans (((bcell ((Below.refl w3.heap.size w3).alloc (Nat.le_refl _) _)).1 _ _ hz3).trans d0); have e1 : w4.cell? ⟨w1.heap.size, 1, none⟩ = some (.int .i64 0) := (hgrow.cell_far _ (by simp; omega) (Ne.symm ab)).trans (((bcell ((Below.refl w3.heap.size w3).alloc (Nat.le_refl _) _)).1 _ _ hz3).trans d1); have ef : ∀ o, w4.frozen? ⟨w1.heap.size, o, none⟩ = false := fun o => (hgrow.frozen_far _ (by simp; omega) (Ne.symm ab)).trans (((bcell ((Below.refl w3.heap.size w3).alloc (Nat.le_refl _) _)).2 _ _ hz3).trans (((bcell A3).2 _ _ hbs).trans (cf o))); have ek : w4.cell? ⟨g, k, none⟩ = some (.string x) := (hgrow.cell_far _ (by simp; omega) (Ne.symm ag)).trans (((bcell ((Below.refl w3.heap.size w3).alloc (Nat.le_refl _) _)).1 _ _ (Nat.lt_of_lt_of_le hgr A3.size)).trans dk); have ef0 := ef 0)
                refine hK.out _ _ ?_ (fun hH4 => ?_)
                · (try dsimp only)
                  first | go_keep | assumption | (rw [World.cell?_setCell_far _ _ _ _ hgb]; assumption)
                clear hK K hH3
                try simp only [Act.put, List.setIfInBounds_toArray, List.set_cons_zero, List.set_cons_succ]
                refine wpAnyH_take (i := 9) (oi := { dst := some 31, op := Op.fieldAddr 43 (Operand.tmp 4) 0, type := 0, pos := "l04_header.go:152", after := #[{ on := 0, ground := Ground.phase }, { on := 1, ground := Ground.phase }, { on := 2, ground := Ground.phase }, { on := 3, ground := Ground.phase }, { on := 4, ground := Ground.phase }, { on := 5, ground := Ground.phase }, { on := 6, ground := Ground.phase }, { on := 7, ground := Ground.phase }, { on := 8, ground := Ground.phase }], guard := none }) (v := ?va6) rfl (by kernel_rfl) (by kernel_rfl) (by kernel_rfl) (fun _ _ _ h => h) (Or.inl ⟨by rfl, ?hya6⟩) (by assumption) ?resta6
                case hya6 =>
                  intro w hSw
                  (try dsimp only at hSw)
                  go_simp
                  try with_reducible rfl
                try simp only [Act.put, List.setIfInBounds_toArray, List.set_cons_zero, List.set_cons_succ]
                refine wpAnyH_ready (rs := [10]) (by kernel_rfl) (by simp) ?_
                refine AllReadyH.cons (o := { dst := none, op := Op.store 41 (Operand.tmp 31) (Operand.tmp 30), type := 0, pos := "l04_header.go:152", after := #[{ on := 9, ground := Ground.data }, { on := 8, ground := Ground.data }, { on := 8, ground := Ground.chain }, { on := 0, ground := Ground.phase }, { on := 1, ground := Ground.phase }, { on := 2, ground := Ground.phase }, { on := 3, ground := Ground.phase }, { on := 4, ground := Ground.phase }, { on := 5, ground := Ground.phase }, { on := 6, ground := Ground.phase }, { on := 7, ground := Ground.phase }, { on := 8, ground := Ground.phase }], guard := none }) rfl (fun K hK => ?_) AllReadyH.nil
                · skip
                  go_simp
                  try (go_wp2_with fail)
                  refine hK.out _ _ ?_ (fun hH5 => ?_)
                  · (try dsimp only)
                    first | go_keep | assumption | (rw [World.cell?_setCell_far _ _ _ _ hgb]; assumption)
                  clear hK K hH4
                  try simp only [Act.put, List.setIfInBounds_toArray, List.set_cons_zero, List.set_cons_succ]
                  refine wpAnyH_done (by kernel_rfl) ?_ _
                  go_wp2
                  go_roundw
                  case rel =>
                    refine ⟨k + 1, _, by omega, by go_num, ⟨World.cell?_setCell_same _ _ _ e0, ?_, ?_, ?_⟩, ?_, ?_⟩
                    · rw [World.cell?_setCell_other _ _ _ _ (by simp)]; exact e1
                    · intro o; rw [World.frozen?_setCell]; exact ef o
                    · have := hgrow.size; simp [World.setCell] at this ⊢; omega
                    · show World.ownsRow _ _ _ _ _ _ _
                      rw [HP.out, ← pairCells_snoc, List.length_append]
                      exact ownsRow_setCell_below hown4 (Nat.lt_succ_self _) _
                    · exact Below.setCell (((HB.out.trans (A3.mono (by omega))).alloc (by omega) _).grown hgrow (by simp; omega) (fun j hj => by have := (HO.out.lt j hj).1; omega)) (Nat.le_refl _) _
                  case measure => simp [intOf]; omega
        · skip
          go_simp
          (go_at_call 57; refine (KP.out _).mono ?_; rintro e w3 ⟨rfl, hb3⟩; have A3 : Below wr.heap.size wr w3 := after_drew hb3; have hz3 : w1.heap.size + 1 ≤ w3.heap.size := Nat.le_trans hbs A3.size; have d0 : w3.cell? ⟨w1.heap.size, 0, none⟩ = some v := ((bcell A3).1 _ _ hbs).trans c0; have d1 : w3.cell? ⟨w1.heap.size, 1, none⟩ = some (.int .i64 0) := ((bcell A3).1 _ _ hbs).trans c1; have df : w3.frozen? ⟨w1.heap.size, 0, none⟩ = false := ((bcell A3).2 _ _ hbs).trans (cf 0); have dk : w3.cell? ⟨g, k, none⟩ = some (.string x) := ((bcell A3).1 _ _ hgr).trans ck; have O3 : Hid (w3.ownsRow (w1.heap.size + 1) 64 2 v (readQ L k).length (pairCells (readQ L k))) := ownR_below HO.out A3; have da : ∀ o, (w3.alloc o).cell? ⟨w1.heap.size, 0, none⟩ = some v := fun o => ((bcell ((Below.refl w3.heap.size w3).alloc (Nat.le_refl _) o)).1 _ _ hz3).trans d0; clear hb3)
          try (go_wp2_with fail)
          refine hK.out _ _ ?_ (fun hH1 => ?_)
          · (try dsimp only)
            first | go_keep | assumption | (rw [World.cell?_setCell_far _ _ _ _ hgb]; assumption)
          clear hK K hH0
          try simp only [Act.put, List.setIfInBounds_toArray, List.set_cons_zero, List.set_cons_succ]
          refine wpAnyH_ready (rs := [1, 7]) (by kernel_rfl) (by simp) ?_
          refine AllReadyH.cons (o := { dst := some 23, op := Op.load 41 (Operand.tmp 22), type := 41, pos := "l04_header.go:152", after := #[{ on := 0, ground := Ground.data }], guard := none }) rfl (fun K hK => ?_) (AllReadyH.cons (o := { dst := some 29, op := Op.buildSlice 41 1 #[(0, Operand.tmp 28)], type := 41, pos := "l04_header.go:152", after := #[{ on := 6, ground := Ground.data }], guard := none }) rfl (fun K hK => ?_) AllReadyH.nil)
          · skip
            go_simp
            try (go_wp2_with fail)
            refine hK.out _ _ ?_ (fun hH2 => ?_)
            · (try dsimp only)
              first | go_keep | assumption | (rw [World.cell?_setCell_far _ _ _ _ hgb]; assumption)
            clear hK K hH1
            try simp only [Act.put, List.setIfInBounds_toArray, List.set_cons_zero, List.set_cons_succ]
            refine wpAnyH_ready (rs := [7]) (by kernel_rfl) (by simp) ?_
            refine AllReadyH.cons (o := { dst := some 29, op := Op.buildSlice 41 1 #[(0, Operand.tmp 28)], type := 41, pos := "l04_header.go:152", after := #[{ on := 6, ground := Ground.data }], guard := none }) rfl (fun K hK => ?_) AllReadyH.nil
            · skip
              go_simp
              try (go_wp2_with fail)
              refine hK.out _ _ ?_ (fun hH3 => ?_)
              · (try dsimp only)
                first | go_keep | assumption | (rw [World.cell?_setCell_far _ _ _ _ hgb]; assumption)
              clear hK K hH2
              try simp only [Act.put, List.setIfInBounds_toArray, List.set_cons_zero, List.set_cons_succ]
              refine wpAnyH_ready (rs := [8]) (by kernel_rfl) (by simp) ?_
              refine AllReadyH.cons (o := { dst := some 30, op := Op.call { callee := Callee.builtin Builtin.append, args := #[Operand.tmp 23, Operand.tmp 29], argTypes := #[41, 41] }, type := 41, pos := "l04_header.go:152", after := #[{ on := 1, ground := Ground.data }, { on := 7, ground := Ground.data }, { on := 6, ground := Ground.chain }], guard := none }) rfl (fun K hK => ?_) AllReadyH.nil
              · skip
                (refine step_append_lies _ (by rfl) _ _ _ (by rfl) (w1.heap.size + 1) 64 i0 (.agg #[.string ⟨#[]⟩, .string ⟨#[]⟩]) 2 32 Tryd.underlying41 hi hy0 hy1 hy2 rfl (by omega) v (readQ L k).length (pairCells (readQ L k)) (by rfl) (O3.out.alloc _) ⟨w3.heap.size, 0, none⟩ 1 1 [.string n1, .string v1] (by rfl) (by rfl) (World.news_of_block (cs := #[.string n1, .string v1]) (t := 64) (fr := (0, 0)) (heap_alloc_new w3 _)) (by simp [Value.oneCell']) (by omega) (by unfold maxLen; omega) (by omega) (by simp; omega) (w3.heap.size + 1) (by simp) ?_; intro gg cap w4 hown4 hgrow hat hlt4; have e0 : w4.cell? ⟨w1.heap.size, 0, none⟩ = some v := (hgrow.cell_far _ (by simp; omega) (Ne.symm ab)).trans (((bcell ((Below.refl w3.heap.size w3).alloc (Nat.le_refl _) _)).1 _ _ hz3).trans d0); have e1 : w4.cell? ⟨w1.heap.size, 1, none⟩ = some (.int .i64 0) := (hgrow.cell_far _ (by simp; omega) (Ne.symm ab)).trans (((bcell ((Below.refl w3.heap.size w3).alloc (Nat.le_refl _) _)).1 _ _ hz3).trans d1); have ef : ∀ o, w4.frozen? ⟨w1.heap.size, o, none⟩ = false := fun o => (hgrow.frozen_far _ (by simp; omega) (Ne.symm ab)).trans (((bcell ((Below.refl w3.heap.size w3).alloc (Nat.le_refl _) _)).2 _ _ hz3).trans (((bcell A3).2 _ _ hbs).trans (cf o))); have ek : w4.cell? ⟨g, k, none⟩ = some (.string x) := (hgrow.cell_far _ (by simp; omega) (Ne.symm ag)).trans (((bcell ((Below.refl w3.heap.size w3).alloc (Nat.le_refl _) _)).1 _ _ (Nat.lt_of_lt_of_le hgr A3.size)).trans dk); have ef0 := ef 0)
                refine hK.out _ _ ?_ (fun hH4 => ?_)
                · (try dsimp only)
                  first | go_keep | assumption | (rw [World.cell?_setCell_far _ _ _ _ hgb]; assumption)
                clear hK K hH3
                try simp only [Act.put, List.setIfInBounds_toArray, List.set_cons_zero, List.set_cons_succ]
                refine wpAnyH_take (i := 9) (oi := { dst := some 31, op := Op.fieldAddr 43 (Operand.tmp 4) 0, type := 0, pos := "l04_header.go:152", after := #[{ on := 0, ground := Ground.phase }, { on := 1, ground := Ground.phase }, { on := 2, ground := Ground.phase }, { on := 3, ground := Ground.phase }, { on := 4, ground := Ground.phase }, { on := 5, ground := Ground.phase }, { on := 6, ground := Ground.phase }, { on := 7, ground := Ground.phase }, { on := 8, ground := Ground.phase }], guard := none }) (v := ?va7) rfl (by kernel_rfl) (by kernel_rfl) (by kernel_rfl) (fun _ _ _ h => h) (Or.inl ⟨by rfl, ?hya7⟩) (by assumption) ?resta7
                case hya7 =>
                  intro w hSw
                  (try dsimp only at hSw)
                  go_simp
                  try with_reducible rfl
                try simp only [Act.put, List.setIfInBounds_toArray, List.set_cons_zero, List.set_cons_succ]
                refine wpAnyH_ready (rs := [10]) (by kernel_rfl) (by simp) ?_
                refine AllReadyH.cons (o := { dst := none, op := Op.store 41 (Operand.tmp 31) (Operand.tmp 30), type := 0, pos := "l04_header.go:152", after := #[{ on := 9, ground := Ground.data }, { on := 8, ground := Ground.data }, { on := 8, ground := Ground.chain }, { on := 0, ground := Ground.phase }, { on := 1, ground := Ground.phase }, { on := 2, ground := Ground.phase }, { on := 3, ground := Ground.phase }, { on := 4, ground := Ground.phase }, { on := 5, ground := Ground.phase }, { on := 6, ground := Ground.phase }, { on := 7, ground := Ground.phase }, { on := 8, ground := Ground.phase }], guard := none }) rfl (fun K hK => ?_) AllReadyH.nil
                · skip
                  go_simp
                  try (go_wp2_with fail)
                  refine hK.out _ _ ?_ (fun hH5 => ?_)
                  · (try dsimp only)
                    first | go_keep | assumption | (rw [World.cell?_setCell_far _ _ _ _ hgb]; assumption)
                  clear hK K hH4
                  try simp only [Act.put, List.setIfInBounds_toArray, List.set_cons_zero, List.set_cons_succ]
                  refine wpAnyH_done (by kernel_rfl) ?_ _
                  go_wp2
                  go_roundw
                  case rel =>
                    refine ⟨k + 1, _, by omega, by go_num, ⟨World.cell?_setCell_same _ _ _ e0, ?_, ?_, ?_⟩, ?_, ?_⟩
                    · rw [World.cell?_setCell_other _ _ _ _ (by simp)]; exact e1
                    · intro o; rw [World.frozen?_setCell]; exact ef o
                    · have := hgrow.size; simp [World.setCell] at this ⊢; omega
                    · show World.ownsRow _ _ _ _ _ _ _
                      rw [HP.out, ← pairCells_snoc, List.length_append]
                      exact ownsRow_setCell_below hown4 (Nat.lt_succ_self _) _
                    · exact Below.setCell (((HB.out.trans (A3.mono (by omega))).alloc (by omega) _).grown hgrow (by simp; omega) (fun j hj => by have := (HO.out.lt j hj).1; omega)) (Nat.le_refl _) _
                  case measure => simp [intOf]; omega
          · skip
            go_simp
            try (go_wp2_with fail)
            refine hK.out _ _ ?_ (fun hH2 => ?_)
            · (try dsimp only)
              first | go_keep | assumption | (rw [World.cell?_setCell_far _ _ _ _ hgb]; assumption)
            clear hK K hH1
            try simp only [Act.put, List.setIfInBounds_toArray, List.set_cons_zero, List.set_cons_succ]
            refine wpAnyH_ready (rs := [1]) (by kernel_rfl) (by simp) ?_
            refine AllReadyH.cons (o := { dst := some 23, op := Op.load 41 (Operand.tmp 22), type := 41, pos := "l04_header.go:152", after := #[{ on := 0, ground := Ground.data }], guard := none }) rfl (fun K hK => ?_) AllReadyH.nil
            · skip
              go_simp
              try (go_wp2_with fail)
              refine hK.out _ _ ?_ (fun hH3 => ?_)
              · (try dsimp only)
                first | go_keep | assumption | (rw [World.cell?_setCell_far _ _ _ _ hgb]; assumption)
              clear hK K hH2
              try simp only [Act.put, List.setIfInBounds_toArray, List.set_cons_zero, List.set_cons_succ]
              refine wpAnyH_ready (rs := [8]) (by kernel_rfl) (by simp) ?_
              refine AllReadyH.cons (o := { dst := some 30, op := Op.call { callee := Callee.builtin Builtin.append, args := #[Operand.tmp 23, Operand.tmp 29], argTypes := #[41, 41] }, type := 41, pos := "l04_header.go:152", after := #[{ on := 1, ground := Ground.data }, { on := 7, ground := Ground.data }, { on := 6, ground := Ground.chain }], guard := none }) rfl (fun K hK => ?_) AllReadyH.nil
              · skip
                (refine step_append_lies _ (by rfl) _ _ _ (by rfl) (w1.heap.size + 1) 64 i0 (.agg #[.string ⟨#[]⟩, .string ⟨#[]⟩]) 2 32 Tryd.underlying41 hi hy0 hy1 hy2 rfl (by omega) v (readQ L k).length (pairCells (readQ L k)) (by rfl) (O3.out.alloc _) ⟨w3.heap.size, 0, none⟩ 1 1 [.string n1, .string v1] (by rfl) (by rfl) (World.news_of_block (cs := #[.string n1, .string v1]) (t := 64) (fr := (0, 0)) (heap_alloc_new w3 _)) (by simp [Value.oneCell']) (by omega) (by unfold maxLen; omega) (by omega) (by simp; omega) (w3.heap.size + 1) (by simp) ?_; intro gg cap w4 hown4 hgrow hat hlt4; have e0 : w4.cell? ⟨w1.heap.size, 0, none⟩ = some v := (hgrow.cell_far _ (by simp; omega) (Ne.symm ab)).trans (((bcell ((Below.refl w3.heap.size w3).alloc (Nat.le_refl _) _)).1 _ _ hz3).trans d0); have e1 : w4.cell? ⟨w1.heap.size, 1, none⟩ = some (.int .i64 0) := (hgrow.cell_far _ (by simp; omega) (Ne.symm ab)).trans (((bcell ((Below.refl w3.heap.size w3).alloc (Nat.le_refl _) _)).1 _ _ hz3).trans d1); have ef : ∀ o, w4.frozen? ⟨w1.heap.size, o, none⟩ = false := fun o => (hgrow.frozen_far _ (by simp; omega) (Ne.symm ab)).trans (((bcell ((Below.refl w3.heap.size w3).alloc (Nat.le_refl _) _)).2 _ _ hz3).trans (((bcell A3).2 _ _ hbs).trans (cf o))); have ek : w4.cell? ⟨g, k, none⟩ = some (.string x) := (hgrow.cell_far _ (by simp; omega) (Ne.symm ag)).trans (((bcell ((Below.refl w3.heap.size w3).alloc (Nat.le_refl _) _)).1 _ _ (Nat.lt_of_lt_of_le hgr A3.size)).trans dk); have ef0 := ef 0)
                refine hK.out _ _ ?_ (fun hH4 => ?_)
                · (try dsimp only)
                  first | go_keep | assumption | (rw [World.cell?_setCell_far _ _ _ _ hgb]; assumption)
                clear hK K hH3
                try simp only [Act.put, List.setIfInBounds_toArray, List.set_cons_zero, List.set_cons_succ]
                refine wpAnyH_take (i := 9) (oi := { dst := some 31, op := Op.fieldAddr 43 (Operand.tmp 4) 0, type := 0, pos := "l04_header.go:152", after := #[{ on := 0, ground := Ground.phase }, { on := 1, ground := Ground.phase }, { on := 2, ground := Ground.phase }, { on := 3, ground := Ground.phase }, { on := 4, ground := Ground.phase }, { on := 5, ground := Ground.phase }, { on := 6, ground := Ground.phase }, { on := 7, ground := Ground.phase }, { on := 8, ground := Ground.phase }], guard := none }) (v := ?va8) rfl (by kernel_rfl) (by kernel_rfl) (by kernel_rfl) (fun _ _ _ h => h) (Or.inl ⟨by rfl, ?hya8⟩) (by assumption) ?resta8
                case hya8 =>
                  intro w hSw
                  (try dsimp only at hSw)
                  go_simp
                  try with_reducible rfl
                try simp only [Act.put, List.setIfInBounds_toArray, List.set_cons_zero, List.set_cons_succ]
                refine wpAnyH_ready (rs := [10]) (by kernel_rfl) (by simp) ?_
                refine AllReadyH.cons (o := { dst := none, op := Op.store 41 (Operand.tmp 31) (Operand.tmp 30), type := 0, pos := "l04_header.go:152", after := #[{ on := 9, ground := Ground.data }, { on := 8, ground := Ground.data }, { on := 8, ground := Ground.chain }, { on := 0, ground := Ground.phase }, { on := 1, ground := Ground.phase }, { on := 2, ground := Ground.phase }, { on := 3, ground := Ground.phase }, { on := 4, ground := Ground.phase }, { on := 5, ground := Ground.phase }, { on := 6, ground := Ground.phase }, { on := 7, ground := Ground.phase }, { on := 8, ground := Ground.phase }], guard := none }) rfl (fun K hK => ?_) AllReadyH.nil
                · skip
                  go_simp
                  try (go_wp2_with fail)
                  refine hK.out _ _ ?_ (fun hH5 => ?_)
                  · (try dsimp only)
                    first | go_keep | assumption | (rw [World.cell?_setCell_far _ _ _ _ hgb]; assumption)
                  clear hK K hH4
                  try simp only [Act.put, List.setIfInBounds_toArray, List.set_cons_zero, List.set_cons_succ]
                  refine wpAnyH_done (by kernel_rfl) ?_ _
                  go_wp2
                  go_roundw
                  case rel =>
                    refine ⟨k + 1, _, by omega, by go_num, ⟨World.cell?_setCell_same _ _ _ e0, ?_, ?_, ?_⟩, ?_, ?_⟩
                    · rw [World.cell?_setCell_other _ _ _ _ (by simp)]; exact e1
                    · intro o; rw [World.frozen?_setCell]; exact ef o
                    · have := hgrow.size; simp [World.setCell] at this ⊢; omega
                    · show World.ownsRow _ _ _ _ _ _ _
                      rw [HP.out, ← pairCells_snoc, List.length_append]
                      exact ownsRow_setCell_below hown4 (Nat.lt_succ_self _) _
                    · exact Below.setCell (((HB.out.trans (A3.mono (by omega))).alloc (by omega) _).grown hgrow (by simp; omega) (fun j hj => by have := (HO.out.lt j hj).1; omega)) (Nat.le_refl _) _
                  case measure => simp [intOf]; omega
      · obtain rfl : k = L.length := by omega
        have SP : Hid (SliceP wr (w1.heap.size + 1) v (readQ L L.length)) := sliceP_of_own HO.out
        have BW : Hid (Below w.heap.size w wr) := B1.out.trans (HB.out.mono B1.out.size)
        have KT : Hid (Calls Tryd.prog 58 #[v] wr fun e w' => e = .returned (.string (pairsT (readQ L L.length))) ∧ Below wr.heap.size wr w') := specPairsText_any v _ _ wr SP.out (by omega) HRS.out
        have cf0 := cf 0
        generalize readQ L L.length = P at *
        generalize pairsT P = tx at *
        go_wp2_with fail
        refine KT.out.mono ?_
        rintro e w5 ⟨rfl, hb5⟩
        have S5 : Hid (SliceP w5 (w1.heap.size + 1) v P) := SliceR.below SP.out hb5
        have B5 : Hid (Below w1.heap.size w1 w5) := HB.out.trans (hb5.mono (by omega))
        have BW5 : Hid (Below w.heap.size w w5) := BW.out.trans (hb5.mono BW.out.size)
        have d0 : w5.cell? ⟨w1.heap.size, 0, none⟩ = some v := by rw [(bcell hb5).1 _ _ hbs]; exact c0
        have d1 : w5.cell? ⟨w1.heap.size, 1, none⟩ = some (.int .i64 0) := by rw [(bcell hb5).1 _ _ hbs]; exact c1
        clear hb5 KT SP c0 c1 cf cf0
        obtain ⟨g0, g1, gf⟩ := HGf.out w5 B5.out
        have FB : Hid (∀ a b, Below w.heap.size w ((w5.setCell ⟨w.heap.size, 0, none⟩ a).setCell ⟨w.heap.size, 1, none⟩ b)) := fun a b => (BW5.out.setCell (Nat.le_refl _) _).setCell (Nat.le_refl _) _
        have FS : Hid (∀ a b, SliceP ((w5.setCell ⟨w.heap.size, 0, none⟩ a).setCell ⟨w.heap.size, 1, none⟩ b) w.heap.size v P) := fun a b => by
          obtain ⟨p, cap, rfl, hh⟩ := S5.out
          refine ⟨p, cap, rfl, fun hn => ?_⟩
          obtain ⟨g, rfl, hB, hg, hc⟩ := hh hn
          refine ⟨g, rfl, by omega, by simpa [World.setCell] using hg, fun j hj o ho => ⟨?_, ?_⟩⟩
          · rw [World.cell?_setCell_far _ _ _ _ (by show ¬ w.heap.size = g; omega), World.cell?_setCell_far _ _ _ _ (by show ¬ w.heap.size = g; omega)]
            exact (hc j hj o ho).1
          · rw [World.frozen?_setCell, World.frozen?_setCell]; exact (hc j hj o ho).2
        obtain ⟨pP, cP, rfl, -⟩ := S5.out
        cases hq : (tx.toList == t.toList) with
        | true =>
          have HR : Hid (R = (P, 0)) := by show _ = _; rw [HR0.out, hq]; rfl
          go_wp2
          exact bodyPost_ret (v := .agg #[.slice pP P.length cP, .int .i64 0]) (by simp [results, Tryd.results25, go_sem, g0, g1]) rfl ⟨.slice pP P.length cP, by rw [HR.out], by rw [HR.out]; exact FS.out _ _, FB.out _ _⟩
        | false =>
          have HR : Hid (R = ([], 3)) := by show _ = _; rw [HR0.out, hq]; rfl
          go_wp2
          exact bodyPost_ret (v := .agg #[.slice none 0 0, .int .i64 3]) (by simp [results, Tryd.results25, go_sem, g0, g1]) rfl ⟨.slice none 0 0, by rw [HR.out], by rw [HR.out]; exact HN.out _ _ _ _, FB.out _ _⟩
end Go.Proofs.YthcpmbolnmlohaaDoor

/- The laws' eqStringS, markStringS, heldStringS. -/
namespace Go.Proofs.YthcpmbolnmlohaaDoor
open Go.RowKit

end Go.Proofs.YthcpmbolnmlohaaDoor

/- What the laws do with a Pair besides their calls: its size is looked at, it is handed on field by field, two are held against each other. -/
namespace Go.Proofs.YthcpmbolnmlohaaDoor
open Go.RowKit

set_option maxRecDepth 10000 in
set_option maxHeartbeats 1000000 in
theorem eqPair_any (x0 : ByteArray) (x1 : ByteArray) (w : World) :
    Calls Tryd.prog 87 #[.agg #[.string x0, .string x1], .agg #[.string x0, .string x1]] w fun e w' => e = .returned (.bool true) ∧ Below w.heap.size w w' := by
  go_enter Tryd.func87, Tryd.ntmps87
  go_wp2
  go_ret
  exact ⟨rfl, ((Below.refl _ _).alloc (Nat.le_refl _) _).alloc (by simp) _⟩
end Go.Proofs.YthcpmbolnmlohaaDoor

/- What the laws do with a slice of Pairs besides their calls. Written by slices.py. -/
namespace Go.Proofs.YthcpmbolnmlohaaDoor
open Go.RowKit

/-- the mark of each cell -/
def markPairC (q j o : Nat) : Value := .string (markT (q + j * 2 + o))
set_option maxRecDepth 10000 in
set_option maxHeartbeats 4000000 in
theorem eqPairS_any (a b : Value) (n B B' : Nat) (f : Nat → Nat → Value) (x : Nat → Nat → ByteArray) (hf : ∀ j, j < n → ∀ o, o < 2 → f j o = .string (x j o)) (w : World) (ha : SliceR w B 2 a n f) (hb : SliceR w B' 2 b n f) (hn : n ≤ 1048576) :
    Calls Tryd.prog 61 #[a, b] w fun e w' => e = .returned (.bool true) ∧ Below w.heap.size w w' := by
  obtain ⟨p, cap, rfl, h1⟩ := ha
  obtain ⟨p', cap', rfl, h2⟩ := hb
  have H1 : Hid (0 < n → ∃ g, p = some ⟨g, 0, none⟩ ∧ B ≤ g ∧ g < w.heap.size ∧ ∀ j, j < n → ∀ o, o < 2 → w.cell? ⟨g, j * 2 + o, none⟩ = some (f j o) ∧ w.frozen? ⟨g, j * 2 + o, none⟩ = false) := h1
  have H2 : Hid (0 < n → ∃ g, p' = some ⟨g, 0, none⟩ ∧ B' ≤ g ∧ g < w.heap.size ∧ ∀ j, j < n → ∀ o, o < 2 → w.cell? ⟨g, j * 2 + o, none⟩ = some (f j o) ∧ w.frozen? ⟨g, j * 2 + o, none⟩ = false) := h2
  have HF : Hid (∀ j, j < n → ∀ o, o < 2 → f j o = .string (x j o)) := hf
  clear h1 h2 hf
  go_enter Tryd.func61, Tryd.ntmps61
  go_wp2
  go_loopw [5] (fun i wr => ∃ k : Nat, k ≤ n ∧ i = .int .i64 k ∧ Hid (Below w.heap.size w wr)) (fun i _ => n - (intOf i).toNat)
  case atStart => exact ⟨0, by omega, rfl, Below.refl _ _⟩
  case round =>
    obtain ⟨k, hk, rfl, HB⟩ := hrel
    by_cases hlt : k < n
    · obtain ⟨g, rfl, -, hg, hc⟩ := H1.out (by omega)
      obtain ⟨g', rfl, -, hg', hc'⟩ := H2.out (by omega)
      have hgr : g < wr.heap.size := Nat.lt_of_lt_of_le hg HB.out.size
      have hgr' : g' < wr.heap.size := Nat.lt_of_lt_of_le hg' HB.out.size
      have c0 : wr.cell? ⟨g, k * 2, none⟩ = some (.string (x k 0)) := by rw [(bcell HB.out).1 _ _ hg, ← HF.out k hlt 0 (by omega)]; exact (hc k hlt 0 (by omega)).1
      have d0 : wr.cell? ⟨g', k * 2, none⟩ = some (.string (x k 0)) := by rw [(bcell HB.out).1 _ _ hg', ← HF.out k hlt 0 (by omega)]; exact (hc' k hlt 0 (by omega)).1
      have c1 : wr.cell? ⟨g, k * 2 + 1, none⟩ = some (.string (x k 1)) := by rw [(bcell HB.out).1 _ _ hg, ← HF.out k hlt 1 (by omega)]; exact (hc k hlt 1 (by omega)).1
      have d1 : wr.cell? ⟨g', k * 2 + 1, none⟩ = some (.string (x k 1)) := by rw [(bcell HB.out).1 _ _ hg', ← HF.out k hlt 1 (by omega)]; exact (hc' k hlt 1 (by omega)).1
      have k0 : (0 : Int) ≤ k := by omega
      have k1 : (k : Int) < n := by omega
      clear hc hc'
      have KE : Hid (∀ W, Calls Tryd.prog 87 #[.agg #[.string (x k 0), .string (x k 1)], .agg #[.string (x k 0), .string (x k 1)]] W fun e w' => e = .returned (.bool true) ∧ Below W.heap.size W w') := fun W => eqPair_any (x k 0) (x k 1) W
      generalize x k 0 = y0 at *
      generalize x k 1 = y1 at *
      go_wp2_with fail
      go_region_held3 (fun w' => w'.cell? ⟨g, k * 2, none⟩ = some (.string y0) ∧ w'.cell? ⟨g, k * 2 + 1, none⟩ = some (.string y1) ∧ w'.cell? ⟨g', k * 2, none⟩ = some (.string y0) ∧ w'.cell? ⟨g', k * 2 + 1, none⟩ = some (.string y1)) (go_keep)
        (first | (go_at_call 87; refine (KE.out _).mono ?_; rintro e w2 ⟨rfl, hb2⟩; have A2 : Below wr.heap.size wr w2 := (Below.drew (Below.refl _ _)).trans hb2; have l0 : w2.cell? ⟨g, k * 2, none⟩ = some (.string y0) := ((bcell A2).1 _ _ hgr).trans c0; have l1 : w2.cell? ⟨g, k * 2 + 1, none⟩ = some (.string y1) := ((bcell A2).1 _ _ hgr).trans c1; have m0 : w2.cell? ⟨g', k * 2, none⟩ = some (.string y0) := ((bcell A2).1 _ _ hgr').trans d0; have m1 : w2.cell? ⟨g', k * 2 + 1, none⟩ = some (.string y1) := ((bcell A2).1 _ _ hgr').trans d1))
      all_goals go_wp2
      all_goals go_roundw
      case rel => exact ⟨k + 1, by omega, by go_num, HB.out.trans (A2.mono HB.out.size)⟩
      case measure => simp [intOf]; omega
    · go_wp2
      go_ret
      exact ⟨rfl, HB.out⟩
/-- one cell turned -/
def updR (f : Nat → Nat → Value) (k o : Nat) (u : Value) (j p : Nat) : Value := if j = k ∧ p = o then u else f j p
theorem SliceR.congr {w : World} {B sz n : Nat} {v : Value} {f h : Nat → Nat → Value} (hs : SliceR w B sz v n f) (he : ∀ j, j < n → ∀ o, o < sz → f j o = h j o) : SliceR w B sz v n h := by
  obtain ⟨p, cap, rfl, hg⟩ := hs
  refine ⟨p, cap, rfl, fun hn => ?_⟩
  obtain ⟨g, rfl, hB, hlt, hc⟩ := hg hn
  exact ⟨g, rfl, hB, hlt, fun j hj o ho => by rw [← he j hj o ho]; exact hc j hj o ho⟩
theorem SliceR.set {w : World} {B sz n m g cap : Nat} {f : Nat → Nat → Value} (hs : SliceR w B sz (.slice (some ⟨g, 0, none⟩) m cap) n f) (k o : Nat) (hk : k < n) (ho : o < sz) (u : Value) : SliceR (w.setCell ⟨g, k * sz + o, none⟩ u) B sz (.slice (some ⟨g, 0, none⟩) m cap) n (updR f k o u) := by
  obtain ⟨p, cap', e, hg⟩ := hs
  injection e with e1 e2 e3
  subst e1 e2 e3
  refine ⟨_, _, rfl, fun hn => ?_⟩
  obtain ⟨g', e, hB, hlt, hc⟩ := hg hn
  injection e with e
  injection e with e
  subst e
  refine ⟨g, rfl, hB, by simpa [World.setCell] using hlt, fun j hj p hp => ⟨?_, ?_⟩⟩
  · unfold updR
    by_cases hjp : j = k ∧ p = o
    · rw [if_pos hjp, hjp.1, hjp.2]; exact World.cell?_setCell_same _ _ _ (hc k hk o ho).1
    · rw [if_neg hjp, World.cell?_setCell_other _ _ _ _ (by
        intro h
        injection h with _ h
        apply hjp
        by_cases hjk : j = k
        · subst hjk; exact ⟨rfl, by omega⟩
        · exfalso
          rcases Nat.lt_or_gt_of_ne hjk with hl | hl
          · have : (j + 1) * sz ≤ k * sz := Nat.mul_le_mul_right sz hl
            rw [Nat.add_mul, Nat.one_mul] at this; omega
          · have : (k + 1) * sz ≤ j * sz := Nat.mul_le_mul_right sz hl
            rw [Nat.add_mul, Nat.one_mul] at this; omega)]
      exact (hc j hj p hp).1
  · rw [World.frozen?_setCell]; exact (hc j hj p hp).2
theorem grownG_below {a w w' : World} {G : Nat} (h : a.grownBy w (some G)) (hb : Below w.heap.size w w') : a.grownBy w' (some G) :=
  ⟨hb.os.trans h.os, hb.tape.trans h.tape, hb.output.trans h.output, Nat.le_trans h.size hb.size, fun k hk hne => (hb.block k (Nat.lt_of_lt_of_le hk h.size)).trans (h.block k hk hne)⟩
theorem grownG_set {a w : World} {G : Nat} (h : a.grownBy w (some G)) (o : Nat) (v : Value) : a.grownBy (w.setCell ⟨G, o, none⟩ v) (some G) :=
  ⟨h.os, h.tape, h.output, by simpa [World.setCell] using h.size, fun k hk hne => (Below.heap_setCell _ _ _ _ (fun e => hne (congrArg some e))).trans (h.block k hk hne)⟩
def markedPair (f : Nat → Nat → Value) (q k j o : Nat) : Value := if j < k then markPairC q j o else f j o
set_option maxRecDepth 10000 in
set_option maxHeartbeats 4000000 in
theorem markPairS_any (a : Value) (n B q : Nat) (f : Nat → Nat → Value) (w : World) (ha : SliceR w B 2 a n f) (hn : n ≤ 1048576) (hq : 0 < q) (hq2 : q ≤ 1048576) :
    Calls Tryd.prog 62 #[a, .int .i64 (q : Int)] w fun e w' => e = .returned (.int .i64 ((q + n * 2 : Nat) : Int)) ∧ SliceR w' B 2 a n (markPairC q) ∧ (∀ G, (0 < n → a.ownBlock = some G) → w.grownBy w' (some G)) := by
  have HA : Hid (SliceR w B 2 a n f) := ha
  obtain ⟨p, cap, rfl, h1⟩ := ha
  have HG : Hid (0 < n → ∃ g, p = some ⟨g, 0, none⟩ ∧ B ≤ g ∧ g < w.heap.size) := fun h => by
    obtain ⟨g, e, h2, h3, -⟩ := h1 h
    exact ⟨g, e, h2, h3⟩
  clear h1
  have HM : Hid (∀ (m : Nat) (W : World), 0 < m → m ≤ 9223372036854775807 → Calls Tryd.prog 88 #[.int .i64 (m : Int)] W fun e w' => e = .returned (.string (markT m)) ∧ Below W.heap.size W w') := fun m W h1 h2 => markText_any m W h1 h2
  go_enter Tryd.func62, Tryd.ntmps62
  go_wp2
  go_loopw [1, 5] (fun kk i wr => ∃ k : Nat, k ≤ n ∧ i = .int .i64 k ∧ kk = .int .i64 ((q + k * 2 : Nat) : Int) ∧ Hid (SliceR wr B 2 (.slice p n cap) n (markedPair f q k)) ∧ Hid (∀ G, (0 < n → (Value.slice p n cap).ownBlock = some G) → w.grownBy wr (some G))) (fun _ i _ => n - (intOf i).toNat)
  case atStart => exact ⟨0, by omega, rfl, by go_num, HA, fun _ _ => ⟨rfl, rfl, rfl, Nat.le_refl _, fun _ _ _ => rfl⟩⟩
  case round =>
    obtain ⟨k, hk, rfl, rfl, HR, HB⟩ := hrel
    by_cases hlt : k < n
    · obtain ⟨g, rfl, hBg, hgw⟩ := HG.out (by omega)
      have k0 : (0 : Int) ≤ k := by omega
      have k1 : (k : Int) < n := by omega
      have HN0 : Hid (∀ W, Calls Tryd.prog 88 #[.int .i64 ((q : Int) + (k : Int) * 2)] W fun e w' => e = .returned (.string (markT (q + k * 2 + 0))) ∧ Below W.heap.size W w') := fun W => by
        have h := HM.out (q + k * 2 + 0) W (by omega) (by omega)
        have e : (((q + k * 2 + 0 : Nat)) : Int) = ((q : Int) + (k : Int) * 2) := by omega
        rw [e] at h; exact h
      have HN1 : Hid (∀ W, Calls Tryd.prog 88 #[.int .i64 ((q : Int) + (k : Int) * 2 + 1)] W fun e w' => e = .returned (.string (markT (q + k * 2 + 1))) ∧ Below W.heap.size W w') := fun W => by
        have h := HM.out (q + k * 2 + 1) W (by omega) (by omega)
        have e : (((q + k * 2 + 1 : Nat)) : Int) = ((q : Int) + (k : Int) * 2 + 1) := by omega
        rw [e] at h; exact h
      go_wp2_with fail
      refine (HN0.out _).mono ?_
      rintro e w1 ⟨rfl, hb1⟩
      have S1 : Hid (SliceR w1 B 2 (.slice (some ⟨g, 0, none⟩) n cap) n (markedPair f q k)) := HR.out.below hb1
      have B1 : Hid (w.grownBy w1 (some g)) := grownG_below (HB.out g (fun _ => rfl)) hb1
      obtain ⟨hx0, hf0⟩ : w1.cell? ⟨g, k * 2, none⟩ = some ((markedPair f q k) k 0) ∧ w1.frozen? ⟨g, k * 2, none⟩ = false := by
        obtain ⟨p', cap', e, hh⟩ := S1.out
        injection e with e1
        obtain ⟨g', e2, -, -, hc⟩ := hh (by omega)
        rw [e2] at e1
        injection e1 with e1
        injection e1 with e1
        subst e1
        exact hc k hlt 0 (by omega)
      generalize (markedPair f q k) k 0 = z0 at hx0
      clear hb1
      go_wp2_with fail
      refine (HN1.out _).mono ?_
      rintro e w2 ⟨rfl, hb2⟩
      have S2 : Hid (SliceR w2 B 2 (.slice (some ⟨g, 0, none⟩) n cap) n (updR (markedPair f q k) k 0 (.string (markT (q + k * 2 + 0))))) := (SliceR.set S1.out k 0 hlt (by omega) (.string (markT (q + k * 2 + 0)))).below hb2
      have B2 : Hid (w.grownBy w2 (some g)) := grownG_below (grownG_set B1.out (k * 2 + 0) (.string (markT (q + k * 2 + 0)))) hb2
      obtain ⟨hx1, hf1⟩ : w2.cell? ⟨g, k * 2 + 1, none⟩ = some ((updR (markedPair f q k) k 0 (.string (markT (q + k * 2 + 0)))) k 1) ∧ w2.frozen? ⟨g, k * 2 + 1, none⟩ = false := by
        obtain ⟨p', cap', e, hh⟩ := S2.out
        injection e with e1
        obtain ⟨g', e2, -, -, hc⟩ := hh (by omega)
        rw [e2] at e1
        injection e1 with e1
        injection e1 with e1
        subst e1
        exact hc k hlt 1 (by omega)
      generalize (updR (markedPair f q k) k 0 (.string (markT (q + k * 2 + 0)))) k 1 = z1 at hx1
      clear hb2
      go_wp2
      go_roundw
      case rel =>
        refine ⟨k + 1, by omega, by go_num, by go_num, ?_, ?_⟩
        · refine SliceR.congr (SliceR.set S2.out k 1 hlt (by omega) (.string (markT (q + k * 2 + 1)))) (fun j hj o ho => ?_)
          unfold markedPair
          by_cases e : j = k
          · subst e
            rw [if_pos (Nat.lt_succ_self _)]
            rcases (show o = 0 ∨ o = 1 by omega) with rfl | rfl <;> simp [updR, markPairC]
          · by_cases h : j < k
            · rw [if_pos (by omega)]; simp [updR, e, h]
            · rw [if_neg (by omega)]; simp [updR, e, h]
        · intro G hG
          obtain rfl : g = G := Option.some.inj (hG (by omega))
          exact grownG_set B2.out (k * 2 + 1) _
      case measure => simp [intOf]; omega
    · obtain rfl : k = n := by omega
      have HS : Hid (SliceR wr B 2 (.slice p k cap) k (markPairC q)) := SliceR.congr HR.out (fun j hj o ho => by unfold markedPair; rw [if_pos hj])
      go_wp2
      go_ret
      exact ⟨rfl, HS.out, HB.out⟩
set_option maxRecDepth 10000 in
set_option maxHeartbeats 4000000 in
theorem heldPairS_any (a : Value) (n B q : Nat) (w : World) (ha : SliceR w B 2 a n (markPairC q)) (hn : n ≤ 1048576) (hq : 0 < q) (hq2 : q ≤ 1048576) :
    Calls Tryd.prog 63 #[a, .int .i64 (q : Int)] w fun e w' => e = .returned (.int .i64 ((q + n * 2 : Nat) : Int)) ∧ Below w.heap.size w w' := by
  obtain ⟨p, cap, rfl, h1⟩ := ha
  have HG : Hid (0 < n → ∃ g, p = some ⟨g, 0, none⟩ ∧ B ≤ g ∧ g < w.heap.size ∧ ∀ j, j < n → ∀ o, o < 2 → w.cell? ⟨g, j * 2 + o, none⟩ = some (markPairC q j o) ∧ w.frozen? ⟨g, j * 2 + o, none⟩ = false) := h1
  clear h1
  have HM : Hid (∀ (m : Nat) (W : World), 0 < m → m ≤ 9223372036854775807 → Calls Tryd.prog 88 #[.int .i64 (m : Int)] W fun e w' => e = .returned (.string (markT m)) ∧ Below W.heap.size W w') := fun m W h1 h2 => markText_any m W h1 h2
  go_enter Tryd.func63, Tryd.ntmps63
  go_wp2
  go_loopw [1, 4, 5] (fun kk r i wr => ∃ k : Nat, k ≤ n ∧ i = .int .i64 k ∧ kk = .int .i64 ((q + k * 2 : Nat) : Int) ∧ Hid (Below w.heap.size w wr)) (fun _ _ i _ => n - (intOf i).toNat)
  case atStart => exact ⟨0, by omega, rfl, by go_num, Below.refl _ _⟩
  case round =>
    obtain ⟨k, hk, rfl, rfl, HB⟩ := hrel
    by_cases hlt : k < n
    · obtain ⟨g, rfl, -, hg, hc⟩ := HG.out (by omega)
      have k0 : (0 : Int) ≤ k := by omega
      have k1 : (k : Int) < n := by omega
      have hgr : g < wr.heap.size := Nat.lt_of_lt_of_le hg HB.out.size
      have HN0 : Hid (∀ W, Calls Tryd.prog 88 #[.int .i64 ((q : Int) + (k : Int) * 2)] W fun e w' => e = .returned (.string (markT (q + k * 2 + 0))) ∧ Below W.heap.size W w') := fun W => by
        have h := HM.out (q + k * 2 + 0) W (by omega) (by omega)
        have e : (((q + k * 2 + 0 : Nat)) : Int) = ((q : Int) + (k : Int) * 2) := by omega
        rw [e] at h; exact h
      have c0 : wr.cell? ⟨g, k * 2, none⟩ = some (.string (markT (q + k * 2 + 0))) := by rw [(bcell HB.out).1 _ _ hg]; exact (hc k hlt 0 (by omega)).1
      have HN1 : Hid (∀ W, Calls Tryd.prog 88 #[.int .i64 ((q : Int) + (k : Int) * 2 + 1)] W fun e w' => e = .returned (.string (markT (q + k * 2 + 1))) ∧ Below W.heap.size W w') := fun W => by
        have h := HM.out (q + k * 2 + 1) W (by omega) (by omega)
        have e : (((q + k * 2 + 1 : Nat)) : Int) = ((q : Int) + (k : Int) * 2 + 1) := by omega
        rw [e] at h; exact h
      have c1 : wr.cell? ⟨g, k * 2 + 1, none⟩ = some (.string (markT (q + k * 2 + 1))) := by rw [(bcell HB.out).1 _ _ hg]; exact (hc k hlt 1 (by omega)).1
      clear hc
      generalize markT (q + k * 2 + 0) = t0 at *
      generalize markT (q + k * 2 + 1) = t1 at *
      go_wp2_with fail
      go_region_held3 (fun w' => w'.cell? ⟨g, k * 2, none⟩ = some (.string t0) ∧ w'.cell? ⟨g, k * 2 + 1, none⟩ = some (.string t1)) (go_keep)
        (first | (go_at_call 88; refine (HN0.out _).mono ?_; rintro e w1 ⟨rfl, hb1⟩; have A1 : Below wr.heap.size wr w1 := (Below.drew (Below.refl _ _)).trans hb1; have hgr1 : g < w1.heap.size := Nat.lt_of_lt_of_le hgr A1.size; have E1 : Hid (Below w.heap.size w w1) := HB.out.trans (A1.mono HB.out.size); have c1_0 : w1.cell? ⟨g, k * 2, none⟩ = some (.string t0) := ((bcell A1).1 _ _ hgr).trans c0; have c1_1 : w1.cell? ⟨g, k * 2 + 1, none⟩ = some (.string t1) := ((bcell A1).1 _ _ hgr).trans c1))
      clear hb1 A1 c0 c1
      go_wp2_with fail
      go_region_held3 (fun w' => w'.cell? ⟨g, k * 2 + 1, none⟩ = some (.string t1)) (go_keep)
        (first | (go_at_call 88; refine (HN1.out _).mono ?_; rintro e w2 ⟨rfl, hb2⟩; have A2 : Below w1.heap.size w1 w2 := (Below.drew (Below.refl _ _)).trans hb2; have hgr2 : g < w2.heap.size := Nat.lt_of_lt_of_le hgr1 A2.size; have E2 : Hid (Below w.heap.size w w2) := E1.out.trans (A2.mono E1.out.size); have c2_1 : w2.cell? ⟨g, k * 2 + 1, none⟩ = some (.string t1) := ((bcell A2).1 _ _ hgr1).trans c1_1))
      clear hb2 A2 c1_1
      go_wp2
      go_roundw
      case rel => exact ⟨k + 1, by omega, by go_num, by go_num, E2⟩
      case measure => simp [intOf]; omega
    · obtain rfl : k = n := by omega
      go_wp2
      go_ret
      exact ⟨rfl, HB.out⟩
end Go.Proofs.YthcpmbolnmlohaaDoor

/- The law FnExactPairsRead, walked, over what the program's PairsRead answers. -/
namespace Go.Proofs.YthcpmbolnmlohaaDoor
open Go.RowKit

theorem pairC_text (L : List (ByteArray × ByteArray)) : ∀ j, j < L.length → ∀ o, o < 2 → pairC (atP L) j o = .string (if o = 0 then (atP L j).1 else (atP L j).2) := by
  intro j _ o _
  unfold pairC; split <;> rfl
theorem pairsGot_len (t : ByteArray) : (pairsGot t).1.length ≤ 8001 := by
  have := piecesL_len t
  unfold pairsGot
  split
  · exact Nat.zero_le _
  · split
    · exact Nat.zero_le _
    · split
      · simp; omega
      · exact Nat.zero_le _
set_option maxRecDepth 10000 in
set_option maxHeartbeats 4000000 in
theorem eqPairsOut_any (a b : Value) (d : Int) (L : List (ByteArray × ByteArray)) (B B' : Nat) (w : World) (ha : SliceP w B a L) (hb : SliceP w B' b L) (hn : L.length ≤ 1048576) :
    Calls Tryd.prog 27 #[.agg #[a, .int .i64 d], .agg #[b, .int .i64 d]] w fun e w' => e = .returned (.bool true) ∧ Below w.heap.size w w' := by
  have K : Hid (∀ W, Below w.heap.size w W → Calls Tryd.prog 61 #[a, b] W fun e w' => e = .returned (.bool true) ∧ Below W.heap.size W w') := fun W h => eqPairS_any a b L.length B B' _ _ (pairC_text L) W (SliceR.below ha h) (SliceR.below hb h) hn
  obtain ⟨p, c, rfl, -⟩ := ha
  obtain ⟨p', c', rfl, -⟩ := hb
  have B0 : Hid (∀ o o', Below w.heap.size w ((w.alloc o).alloc o')) := fun o o' => ((Below.refl _ _).alloc (Nat.le_refl _) _).alloc (by simp) _
  have C0 : Hid (∀ W, Below (w.heap.size + 2) ((w.alloc (.cells #[.slice p L.length c, .int .i64 d] 43)).alloc (.cells #[.slice p' L.length c', .int .i64 d] 43)) W → W.cell? ⟨w.heap.size, 1, none⟩ = some (.int .i64 d) ∧ W.cell? ⟨w.heap.size + 1, 1, none⟩ = some (.int .i64 d)) := fun W h => ⟨by
    rw [h.cell (p := ⟨w.heap.size, 1, none⟩) (by show w.heap.size < w.heap.size + 2; omega), World.cell?_alloc_lt _ _ _ (by simp)]; simp, by
    rw [h.cell (p := ⟨w.heap.size + 1, 1, none⟩) (by show w.heap.size + 1 < w.heap.size + 2; omega)]
    have e : (w.alloc (.cells #[.slice p L.length c, .int .i64 d] 43)).heap.size = w.heap.size + 1 := by simp
    rw [← e]; simp⟩
  go_enter Tryd.func27, Tryd.ntmps27
  go_wp2_with fail
  refine (K.out _ (B0.out _ _)).mono ?_
  rintro e w1 ⟨rfl, hb1⟩
  have hz : ((w.alloc (.cells #[.slice p L.length c, .int .i64 d] 43)).alloc (.cells #[.slice p' L.length c', .int .i64 d] 43)).heap.size = w.heap.size + 2 := by simp
  have hb2 := hb1
  rw [hz] at hb2
  obtain ⟨c1, c2⟩ := C0.out w1 hb2
  have B1 : Hid (Below w.heap.size w w1) := (B0.out _ _).trans (hb2.mono (by omega))
  clear hb1 hb2 hz
  go_wp2
  go_ret
  exact ⟨rfl, B1.out⟩
theorem grown_after {a w w' : World} {G : Nat} (hb : Below a.heap.size a w) (h : w.grownBy w' (some G)) : a.grownBy w' (some G) :=
  ⟨h.os.trans hb.os, h.tape.trans hb.tape, h.output.trans hb.output, Nat.le_trans hb.size h.size, fun k hk hne => (h.block k (Nat.lt_of_lt_of_le hk hb.size) hne).trans (hb.block k hk)⟩
set_option maxRecDepth 10000 in
set_option maxHeartbeats 4000000 in
theorem markPairsOut_any (a : Value) (n B q : Nat) (d : Int) (f : Nat → Nat → Value) (w : World) (ha : SliceR w B 2 a n f) (hn : n ≤ 1048576) (hq : 0 < q) (hq2 : q ≤ 1048576) :
    Calls Tryd.prog 28 #[.agg #[a, .int .i64 d], .int .i64 (q : Int)] w fun e w' => e = .returned (.int .i64 ((q + n * 2 : Nat) : Int)) ∧ SliceR w' B 2 a n (markPairC q) ∧ (∀ G, (0 < n → a.ownBlock = some G) → w.grownBy w' (some G)) := by
  have K : Hid (∀ W, Below w.heap.size w W → Calls Tryd.prog 62 #[a, .int .i64 (q : Int)] W fun e w' => e = .returned (.int .i64 ((q + n * 2 : Nat) : Int)) ∧ SliceR w' B 2 a n (markPairC q) ∧ (∀ G, (0 < n → a.ownBlock = some G) → W.grownBy w' (some G))) := fun W h => markPairS_any a n B q f W (SliceR.below ha h) hn hq hq2
  obtain ⟨p, c, rfl, -⟩ := ha
  have B0 : Hid (∀ o, Below w.heap.size w (w.alloc o)) := fun o => (Below.refl _ _).alloc (Nat.le_refl _) _
  go_enter Tryd.func28, Tryd.ntmps28
  go_wp2_with fail
  refine (K.out _ (B0.out _)).mono ?_
  rintro e w1 ⟨rfl, hs, hb1⟩
  have HS : Hid (SliceR w1 B 2 (.slice p n c) n (markPairC q)) := hs
  have HB : Hid (∀ G, (0 < n → (Value.slice p n c).ownBlock = some G) → w.grownBy w1 (some G)) := fun G h => grown_after (B0.out _) (hb1 G h)
  clear hs hb1
  go_wp2
  go_ret
  exact ⟨rfl, HS.out, HB.out⟩
set_option maxRecDepth 10000 in
set_option maxHeartbeats 4000000 in
theorem heldPairsOut_any (a : Value) (n B q : Nat) (d : Int) (w : World) (ha : SliceR w B 2 a n (markPairC q)) (hn : n ≤ 1048576) (hq : 0 < q) (hq2 : q ≤ 1048576) :
    Calls Tryd.prog 29 #[.agg #[a, .int .i64 d], .int .i64 (q : Int)] w fun e w' => e = .returned (.int .i64 ((q + n * 2 : Nat) : Int)) ∧ Below w.heap.size w w' := by
  have K : Hid (∀ W, Below w.heap.size w W → Calls Tryd.prog 63 #[a, .int .i64 (q : Int)] W fun e w' => e = .returned (.int .i64 ((q + n * 2 : Nat) : Int)) ∧ Below W.heap.size W w') := fun W h => heldPairS_any a n B q W (SliceR.below ha h) hn hq hq2
  obtain ⟨p, c, rfl, -⟩ := ha
  have B0 : Hid (∀ o, Below w.heap.size w (w.alloc o)) := fun o => (Below.refl _ _).alloc (Nat.le_refl _) _
  have q0 : decide (((q + n * 2 : Nat) : Int) < 0) = false := by rw [decide_eq_false_iff_not]; omega
  generalize hm : ((q + n * 2 : Nat) : Int) = m at *
  clear hm
  go_enter Tryd.func29, Tryd.ntmps29
  go_wp2_with fail
  refine (K.out _ (B0.out _)).mono ?_
  rintro e w1 ⟨rfl, hb1⟩
  have B1 : Hid (Below w.heap.size w w1) := (B0.out _).trans (hb1.mono (by simp))
  clear hb1
  go_wp2
  go_ret
  exact ⟨rfl, B1.out⟩
end Go.Proofs.YthcpmbolnmlohaaDoor
