/- The walk of the specification's l03Put. -/
import Derived.Test.YtddlnbmkknbegaaDoorStrsIn
import Derived.Test.YtddlnbmkknbegaaDoorAtL
import Derived.Test.YtddlnbmkknbegaaDoorPutT
import Derived.Test.YtddlnbmkknbegaaDoorSplitLib
namespace Go.Proofs.YtddlnbmkknbegaaDoor
open Go.RowKit

/-- a text put among others, in its place -/
def putL (L : List ByteArray) (t : ByteArray) : List ByteArray := (putT (L.map (·.data.toList)) t.data.toList).map (fun l => ⟨l.toArray⟩)
theorem data_back (L : List (List UInt8)) : (L.map (fun l => (⟨l.toArray⟩ : ByteArray))).map (·.data.toList) = L := by
  rw [List.map_map]
  conv => rhs; rw [← List.map_id L]
  apply List.map_congr_left
  intro l _
  simp
theorem back_data (L : List ByteArray) : (L.map (·.data.toList)).map (fun l => (⟨l.toArray⟩ : ByteArray)) = L := by
  apply datas_inj
  rw [data_back]
theorem putL_data (L : List ByteArray) (t : ByteArray) : (putL L t).map (·.data.toList) = putT (L.map (·.data.toList)) t.data.toList := data_back _
theorem less_data (a b : ByteArray) : Op.bytesLess a.toList b.toList = true ↔ a.data.toList < b.data.toList := by rw [less_iff, Lib.toList_data, Lib.toList_data]
theorem same_data (a b : ByteArray) : (a.toList == b.toList) = true ↔ a.data.toList = b.data.toList := by rw [beq_iff_eq, Lib.toList_data, Lib.toList_data]
theorem putL_at {L : List ByteArray} {t : ByteArray} {k : Nat} (hk : k ≤ L.length) (h1 : ∀ j, j < k → Op.bytesLess (atL L j).toList t.toList = true) (h2 : k < L.length → Op.bytesLess (atL L k).toList t.toList = false) :
    ((k < L.length ∧ ((atL L k).toList == t.toList) = true) → putL L t = L) ∧ (¬ (k < L.length ∧ ((atL L k).toList == t.toList) = true) → putL L t = L.take k ++ t :: L.drop k) := by
  have e := putT_at t.data.toList (L.map (·.data.toList)) k (by simpa using hk)
    (fun j hj hjk => by
      have := h1 j hjk
      rw [less_data] at this
      have hl : j < L.length := by simpa using hj
      have e2 : atL L j = L[j] := by simp [atL, hl]
      rw [e2] at this
      simpa using this)
    (fun h hlt => by
      have hl : k < L.length := by simpa using h
      have := h2 hl
      have e2 : atL L k = L[k] := by simp [atL, hl]
      rw [e2, (less_data _ _).2 (by simpa using hlt)] at this
      cases this)
  have ec : (∃ h : k < (L.map (·.data.toList)).length, (L.map (·.data.toList))[k] = t.data.toList) ↔ (k < L.length ∧ ((atL L k).toList == t.toList) = true) := by
    constructor
    · rintro ⟨h, e1⟩
      have hl : k < L.length := by simpa using h
      have e2 : atL L k = L[k] := by simp [atL, hl]
      exact ⟨hl, by rw [e2, same_data]; simpa using e1⟩
    · rintro ⟨hl, e1⟩
      have e2 : atL L k = L[k] := by simp [atL, hl]
      rw [e2, same_data] at e1
      exact ⟨by simpa using hl, by simpa using e1⟩
  constructor
  · intro hc
    rw [if_pos (ec.2 hc)] at e
    unfold putL
    rw [e]; exact back_data L
  · intro hc
    rw [if_neg (fun h => hc (ec.1 h))] at e
    apply datas_inj
    rw [putL_data, e]
    simp
theorem putL_len (L : List ByteArray) (t : ByteArray) : (putL L t).length ≤ L.length + 1 := by
  have : ∀ K : List (List UInt8), (putT K t.data.toList).length ≤ K.length + 1 := by
    intro K
    induction K with
    | nil => simp [putT]
    | cons x K ih =>
      rw [putT]
      split
      · simp; omega
      · split <;> simp
  have h := this (L.map (·.data.toList))
  unfold putL
  simpa using h

theorem own_base {w : World} {B B2 n : Nat} {e : TypeId} {v : Value} {xs : List Value} (h : w.ownsRow B2 e 1 v n xs) (hB : B ≤ B2) : w.ownsRow B e 1 v n xs := by
  obtain ⟨hl, h0 | ⟨g, cap, cur, rfl, hb, r⟩⟩ := h
  · exact ⟨hl, .inl h0⟩
  · exact ⟨hl, .inr ⟨g, cap, cur, rfl, by omega, r⟩⟩
theorem strCells_get {L : List ByteArray} {j : Nat} {u : Value} (h : (strCells L)[j]? = some u) : j < L.length ∧ u = .string (atL L j) := by
  have hj : j < L.length := by
    have := (List.getElem?_eq_some_iff.1 h).1
    simpa [strCells] using this
  refine ⟨hj, ?_⟩
  simp [strCells, hj] at h
  rw [← h]; simp [atL, hj]
theorem news_from {w W : World} {L : List ByteArray} {g k o : Nat} (hb : Below w.heap.size w W) (hg : g < w.heap.size) (hc : ∀ j, j < L.length → w.cell? ⟨g, j, none⟩ = some (.string (atL L j)) ∧ w.frozen? ⟨g, j, none⟩ = false) (ho : k < L.length → o = k) :
    ∀ j u, (strCells (L.drop k))[j]? = some u → W.cell? ((⟨g, o, none⟩ : Addr).add j) = some u := by
  intro j u hu
  obtain ⟨hj, rfl⟩ := strCells_get hu
  rw [List.length_drop] at hj
  rw [ho (by omega), Addr.add_lit, (bcell hb).1 _ _ hg, (hc (k + j) (by omega)).1]
  simp [atL]
theorem news_to {w W : World} {L : List ByteArray} {g k : Nat} (hb : Below w.heap.size w W) (hg : g < w.heap.size) (hc : ∀ j, j < L.length → w.cell? ⟨g, j, none⟩ = some (.string (atL L j)) ∧ w.frozen? ⟨g, j, none⟩ = false) :
    ∀ j u, (strCells (L.take k))[j]? = some u → W.cell? ((⟨g, 0, none⟩ : Addr).add j) = some u := by
  intro j u hu
  obtain ⟨hj, rfl⟩ := strCells_get hu
  rw [List.length_take] at hj
  rw [Addr.add_lit, Nat.zero_add, (bcell hb).1 _ _ hg, (hc j (by omega)).1]
  simp [atL, show j < k by omega]
theorem strCells_one {L : List ByteArray} : ∀ u ∈ strCells L, u.oneCell' = true := by
  intro u hu
  unfold strCells at hu
  rw [List.mem_map] at hu
  obtain ⟨x, _, rfl⟩ := hu
  rfl
set_option maxRecDepth 10000 in
set_option maxHeartbeats 4000000 in
theorem specPut_any (v : Value) (B : Nat) (L : List ByteArray) (t : ByteArray) (w : World) (hB : B ≤ w.heap.size) (ho : w.ownsRow B 9 1 v L.length (strCells L)) (hv : ¬ v = .slice none 0 0) (hn : L.length ≤ 1048576) :
    Calls Tryd.prog 49 #[v, .string t] w fun e w' => ∃ v', e = .returned v' ∧ w'.ownsRow B 9 1 v' (putL L t).length (strCells (putL L t)) ∧ (¬ v' = .slice none 0 0) ∧ Below w.heap.size w w' := by
  obtain ⟨i0, hi, hz0, hz1, hz2⟩ := info_parts infoStr
  have HO : Hid (w.ownsRow B 9 1 v L.length (strCells L)) := ho
  have HP : Hid (∀ k, k ≤ L.length → (∀ j, j < k → Op.bytesLess (atL L j).toList t.toList = true) → (k < L.length → Op.bytesLess (atL L k).toList t.toList = false) →
      ((k < L.length ∧ ((atL L k).toList == t.toList) = true) → putL L t = L) ∧ (¬ (k < L.length ∧ ((atL L k).toList == t.toList) = true) → putL L t = L.take k ++ t :: L.drop k)) := fun k a b c => putL_at a b c
  obtain ⟨hl0, ⟨rfl, h0⟩ | ⟨g, cap, cur, rfl, hbg, hh, hcap, -, -, htake⟩⟩ := ho
  · exact absurd rfl hv
  have hgw : g < w.heap.size := (Array.getElem?_eq_some_iff.mp hh).1
  have HG : Hid (∀ j, j < L.length → w.cell? ⟨g, j, none⟩ = some (.string (atL L j)) ∧ w.frozen? ⟨g, j, none⟩ = false) := fun j hj => by
    obtain ⟨p', c', e', hg'⟩ := slice_of_own HO.out
    obtain ⟨g', rfl, -, -, hc⟩ := hg' (by omega)
    obtain rfl : g = g' := by injection e' with a; injection a with a; injection a
    exact hc j hj
  clear hl0 htake hh hv
  generalize putL L t = R at *
  go_enter Tryd.func49, Tryd.ntmps49
  go_wp2
  go_loopw [5] (fun i wr => ∃ k : Nat, k ≤ L.length ∧ i = .int .i64 k ∧ wr = w ∧ Hid (∀ j, j < k → Op.bytesLess (atL L j).toList t.toList = true)) (fun i _ => L.length - (intOf i).toNat)
  case atStart => exact ⟨0, Nat.zero_le _, rfl, rfl, fun j hj => absurd hj (by omega)⟩
  case round =>
    obtain ⟨k, hk, rfl, rfl, HR⟩ := hrel
    have k0 : (0 : Int) ≤ k := by omega
    have kc : (k : Int) ≤ cap := by omega
    have kl : (k : Int) ≤ L.length := by omega
    have lc : (L.length : Int) ≤ cap := by omega
    by_cases hlt : k < L.length
    · have hck := (HG.out k hlt).1
      have k1 : (k : Int) < L.length := by omega
      have hkc : ¬ cap = k := by omega
      cases hl : Op.bytesLess (atL L k).toList t.toList with
      | true =>
        have HK : Hid (Op.bytesLess (atL L k).toList t.toList = true) := hl
        generalize hx : atL L k = x at *
        have HX : Hid (atL L k = x) := hx
        clear hx
        go_wp2
        go_roundw
        case rel =>
          refine ⟨k + 1, by omega, by go_num, trivial, ?_⟩
          intro j hj
          by_cases e : j = k
          · subst e; rw [HX.out]; exact HK.out
          · exact HR.out j (by omega)
        case measure => simp [intOf]; omega
      | false =>
        have HP2 := HP.out k hk HR.out (fun _ => hl)
        cases he : ((atL L k).toList == t.toList) with
        | true =>
          have HQ : Hid (R = L) := HP2.1 ⟨hlt, he⟩
          clear HP2
          generalize atL L k = x at *
          go_wp2
          go_ret
          exact ⟨_, rfl, by rw [HQ.out]; exact HO.out, by simp, Below.refl _ _⟩
        | false =>
          have HQ : Hid (R = L.take k ++ t :: L.drop k) := HP2.2 (by rw [he]; rintro ⟨_, h⟩; cases h)
          have hb0 : Below wr.heap.size wr (wr.alloc (.cells #[] 9)) := (Below.refl _ _).alloc (Nat.le_refl _) _
          clear HP2
          generalize atL L k = x at *
          go_wp2_with (at_builtin; go_must (refine wpList_append_own _ rfl _ _ 23 rfl wr.heap.size 9 i0 (.string ⟨#[]⟩) 1 16 Tryd.underlying23 hi hz0 hz1 hz2 rfl (by decide) _ _ _ rfl (World.ownsRow_made wr #[] 0 (Nat.le_refl _) (Nat.zero_le _) rfl) ⟨g, 0, none⟩ k _ (strCells (L.take k)) rfl (by simp [strCells]; omega) (news_to hb0 hgw HG.out) strCells_one (by unfold maxLen; omega) (by omega) (by simp) ?_))
          intro v1 w1 ho1 hg1 hn1
          have hb1 : Below wr.heap.size wr w1 := hb0.grown hg1 (by simp) (fun j hj => by simp [Value.ownBlock] at hj; omega)
          have B1 : Hid (Below wr.heap.size wr w1) := hb1
          have O1 : Hid (w1.ownsRow wr.heap.size 9 1 v1 k (strCells (L.take k))) := by show World.ownsRow _ _ _ _ _ _ _; simpa using ho1
          have N1 : Hid (¬ v1 = .slice none 0 0) := by show ¬ _; simpa using hn1
          have hz1' := hb1.size
          clear hb1 ho1 hg1 hn1 hb0
          go_wp2_with (at_builtin; go_must (refine wpList_append_own _ rfl _ _ 23 rfl wr.heap.size 9 i0 (.string ⟨#[]⟩) 1 16 Tryd.underlying23 hi hz0 hz1 hz2 rfl (by decide) _ _ _ rfl (O1.out.alloc _) ⟨w1.heap.size, 0, none⟩ 1 1 [.string t] rfl rfl (cell_one_new _ _ _) (by intro u hu; simp at hu; subst hu; rfl) (by unfold maxLen; omega) (by omega) (by simp; omega) ?_))
          intro v2 w2 ho2 hg2 hn2
          have hb2 : Below wr.heap.size wr w2 := (B1.out.alloc hz1' _).grown hg2 (by simp; omega) (fun j hj => (O1.out.lt j hj).1)
          have B2 : Hid (Below wr.heap.size wr w2) := hb2
          have O2 : Hid (w2.ownsRow wr.heap.size 9 1 v2 (k + 1) (strCells (L.take k) ++ [.string t])) := ho2
          have N2 : Hid (¬ v2 = .slice none 0 0) := hn2
          have hz2' := hb2.size
          clear hb2 ho2 hg2 hn2 O1 B1 N1
          go_wp2_with (at_builtin; go_must (refine wpList_append_own _ rfl _ _ 23 rfl wr.heap.size 9 i0 (.string ⟨#[]⟩) 1 16 Tryd.underlying23 hi hz0 hz1 hz2 rfl (by decide) _ _ _ rfl O2.out ⟨g, k, none⟩ (L.length - k) _ (strCells (L.drop k)) rfl (by simp [strCells]) (news_from B2.out hgw HG.out (by omega)) strCells_one (by unfold maxLen; omega) (by omega) hz2' ?_))
          intro v3 w3 ho3 hg3 hn3
          have hb3 : Below wr.heap.size wr w3 := B2.out.grown hg3 hz2' (fun j hj => (O2.out.lt j hj).1)
          have O3 : Hid (w3.ownsRow B 9 1 v3 R.length (strCells R)) := by
            show World.ownsRow _ _ _ _ _ _ _
            have e1 : strCells R = strCells (L.take k) ++ .string t :: strCells (L.drop k) := by rw [HQ.out]; simp [strCells]
            have e2 : R.length = k + 1 + (L.length - k) := by rw [HQ.out]; simp; omega
            rw [e1, e2]; exact own_base ho3 hB
          have N3 : Hid (¬ v3 = .slice none 0 0) := fun h => N2.out (hn3.1 h).1
          have B3 : Hid (Below wr.heap.size wr w3) := hb3
          clear hb3 ho3 hg3 hn3 O2 B2 N2
          go_wp2
          go_ret
          exact ⟨_, rfl, O3.out, N3.out, B3.out⟩
    · have HQ : Hid (R = L.take k ++ t :: L.drop k) := (HP.out k hk HR.out (fun h => absurd h hlt)).2 (fun h => hlt h.1)
      have hb0 : Below wr.heap.size wr (wr.alloc (.cells #[] 9)) := (Below.refl _ _).alloc (Nat.le_refl _) _
      have k1 : ¬ (k : Int) < L.length := by omega
      by_cases hkc : cap = k
      · go_wp2_with (at_builtin; go_must (refine wpList_append_own _ rfl _ _ 23 rfl wr.heap.size 9 i0 (.string ⟨#[]⟩) 1 16 Tryd.underlying23 hi hz0 hz1 hz2 rfl (by decide) _ _ _ rfl (World.ownsRow_made wr #[] 0 (Nat.le_refl _) (Nat.zero_le _) rfl) ⟨g, 0, none⟩ k _ (strCells (L.take k)) rfl (by simp [strCells]; omega) (news_to hb0 hgw HG.out) strCells_one (by unfold maxLen; omega) (by omega) (by simp) ?_))
        intro v1 w1 ho1 hg1 hn1
        have hb1 : Below wr.heap.size wr w1 := hb0.grown hg1 (by simp) (fun j hj => by simp [Value.ownBlock] at hj; omega)
        have B1 : Hid (Below wr.heap.size wr w1) := hb1
        have O1 : Hid (w1.ownsRow wr.heap.size 9 1 v1 k (strCells (L.take k))) := by show World.ownsRow _ _ _ _ _ _ _; simpa using ho1
        have N1 : Hid (¬ v1 = .slice none 0 0) := by show ¬ _; simpa using hn1
        have hz1' := hb1.size
        clear hb1 ho1 hg1 hn1 hb0
        go_wp2_with (at_builtin; go_must (refine wpList_append_own _ rfl _ _ 23 rfl wr.heap.size 9 i0 (.string ⟨#[]⟩) 1 16 Tryd.underlying23 hi hz0 hz1 hz2 rfl (by decide) _ _ _ rfl (O1.out.alloc _) ⟨w1.heap.size, 0, none⟩ 1 1 [.string t] rfl rfl (cell_one_new _ _ _) (by intro u hu; simp at hu; subst hu; rfl) (by unfold maxLen; omega) (by omega) (by simp; omega) ?_))
        intro v2 w2 ho2 hg2 hn2
        have hb2 : Below wr.heap.size wr w2 := (B1.out.alloc hz1' _).grown hg2 (by simp; omega) (fun j hj => (O1.out.lt j hj).1)
        have B2 : Hid (Below wr.heap.size wr w2) := hb2
        have O2 : Hid (w2.ownsRow wr.heap.size 9 1 v2 (k + 1) (strCells (L.take k) ++ [.string t])) := ho2
        have N2 : Hid (¬ v2 = .slice none 0 0) := hn2
        have hz2' := hb2.size
        clear hb2 ho2 hg2 hn2 O1 B1 N1
        go_wp2_with (at_builtin; go_must (refine wpList_append_own _ rfl _ _ 23 rfl wr.heap.size 9 i0 (.string ⟨#[]⟩) 1 16 Tryd.underlying23 hi hz0 hz1 hz2 rfl (by decide) _ _ _ rfl O2.out ⟨g, 0, none⟩ (L.length - k) _ (strCells (L.drop k)) rfl (by simp [strCells]) (news_from B2.out hgw HG.out (by omega)) strCells_one (by unfold maxLen; omega) (by omega) hz2' ?_))
        intro v3 w3 ho3 hg3 hn3
        have hb3 : Below wr.heap.size wr w3 := B2.out.grown hg3 hz2' (fun j hj => (O2.out.lt j hj).1)
        have O3 : Hid (w3.ownsRow B 9 1 v3 R.length (strCells R)) := by
          show World.ownsRow _ _ _ _ _ _ _
          have e1 : strCells R = strCells (L.take k) ++ .string t :: strCells (L.drop k) := by rw [HQ.out]; simp [strCells]
          have e2 : R.length = k + 1 + (L.length - k) := by rw [HQ.out]; simp; omega
          rw [e1, e2]; exact own_base ho3 hB
        have N3 : Hid (¬ v3 = .slice none 0 0) := fun h => N2.out (hn3.1 h).1
        have B3 : Hid (Below wr.heap.size wr w3) := hb3
        clear hb3 ho3 hg3 hn3 O2 B2 N2
        go_wp2
        go_ret
        exact ⟨_, rfl, O3.out, N3.out, B3.out⟩
      · go_wp2_with (at_builtin; go_must (refine wpList_append_own _ rfl _ _ 23 rfl wr.heap.size 9 i0 (.string ⟨#[]⟩) 1 16 Tryd.underlying23 hi hz0 hz1 hz2 rfl (by decide) _ _ _ rfl (World.ownsRow_made wr #[] 0 (Nat.le_refl _) (Nat.zero_le _) rfl) ⟨g, 0, none⟩ k _ (strCells (L.take k)) rfl (by simp [strCells]; omega) (news_to hb0 hgw HG.out) strCells_one (by unfold maxLen; omega) (by omega) (by simp) ?_))
        intro v1 w1 ho1 hg1 hn1
        have hb1 : Below wr.heap.size wr w1 := hb0.grown hg1 (by simp) (fun j hj => by simp [Value.ownBlock] at hj; omega)
        have B1 : Hid (Below wr.heap.size wr w1) := hb1
        have O1 : Hid (w1.ownsRow wr.heap.size 9 1 v1 k (strCells (L.take k))) := by show World.ownsRow _ _ _ _ _ _ _; simpa using ho1
        have N1 : Hid (¬ v1 = .slice none 0 0) := by show ¬ _; simpa using hn1
        have hz1' := hb1.size
        clear hb1 ho1 hg1 hn1 hb0
        go_wp2_with (at_builtin; go_must (refine wpList_append_own _ rfl _ _ 23 rfl wr.heap.size 9 i0 (.string ⟨#[]⟩) 1 16 Tryd.underlying23 hi hz0 hz1 hz2 rfl (by decide) _ _ _ rfl (O1.out.alloc _) ⟨w1.heap.size, 0, none⟩ 1 1 [.string t] rfl rfl (cell_one_new _ _ _) (by intro u hu; simp at hu; subst hu; rfl) (by unfold maxLen; omega) (by omega) (by simp; omega) ?_))
        intro v2 w2 ho2 hg2 hn2
        have hb2 : Below wr.heap.size wr w2 := (B1.out.alloc hz1' _).grown hg2 (by simp; omega) (fun j hj => (O1.out.lt j hj).1)
        have B2 : Hid (Below wr.heap.size wr w2) := hb2
        have O2 : Hid (w2.ownsRow wr.heap.size 9 1 v2 (k + 1) (strCells (L.take k) ++ [.string t])) := ho2
        have N2 : Hid (¬ v2 = .slice none 0 0) := hn2
        have hz2' := hb2.size
        clear hb2 ho2 hg2 hn2 O1 B1 N1
        go_wp2_with (at_builtin; go_must (refine wpList_append_own _ rfl _ _ 23 rfl wr.heap.size 9 i0 (.string ⟨#[]⟩) 1 16 Tryd.underlying23 hi hz0 hz1 hz2 rfl (by decide) _ _ _ rfl O2.out ⟨g, k, none⟩ (L.length - k) _ (strCells (L.drop k)) rfl (by simp [strCells]) (news_from B2.out hgw HG.out (by omega)) strCells_one (by unfold maxLen; omega) (by omega) hz2' ?_))
        intro v3 w3 ho3 hg3 hn3
        have hb3 : Below wr.heap.size wr w3 := B2.out.grown hg3 hz2' (fun j hj => (O2.out.lt j hj).1)
        have O3 : Hid (w3.ownsRow B 9 1 v3 R.length (strCells R)) := by
          show World.ownsRow _ _ _ _ _ _ _
          have e1 : strCells R = strCells (L.take k) ++ .string t :: strCells (L.drop k) := by rw [HQ.out]; simp [strCells]
          have e2 : R.length = k + 1 + (L.length - k) := by rw [HQ.out]; simp; omega
          rw [e1, e2]; exact own_base ho3 hB
        have N3 : Hid (¬ v3 = .slice none 0 0) := fun h => N2.out (hn3.1 h).1
        have B3 : Hid (Below wr.heap.size wr w3) := hb3
        clear hb3 ho3 hg3 hn3 O2 B2 N2
        go_wp2
        go_ret
        exact ⟨_, rfl, O3.out, N3.out, B3.out⟩
end Go.Proofs.YtddlnbmkknbegaaDoor
