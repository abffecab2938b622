/- 14 of this claim's texts, one behind the other. -/
import Derived.Test.YtmlacbjlafdenaaDoorPart1
import Derived.Maps.AppendAt
import Derived.Deep.RegionHeld3
import Derived.Lib.Join
import Derived.Deep.QuietTactic
import Derived.BigQuiet
import Derived.Deep.RegionWith
/- The walk of the program's RuleRight. -/
namespace Go.Proofs.YtmlacbjlafdenaaDoor
open Go.RowKit

theorem cutBang_call (s : ByteArray) (w : World) :
    Calls Tryd.prog 116 #[.string s, .string ⟨#[33]⟩] w fun e w' => e = .returned (.tuple #[.string (unbang s), .bool (bangB s)]) ∧ w' = w := by
  have h := Any.strings_CutPrefix Tryd.lays103 s ⟨#[33]⟩ w
  rw [bangB_lib]
  exact h
theorem trimStar_call (s : ByteArray) (w : World) :
    Calls Tryd.prog 118 #[.string s, .string ⟨#[42, 46]⟩] w fun e w' => e = .returned (.string (unstar s)) ∧ w' = w :=
  Any.strings_TrimPrefix Tryd.lays101 s ⟨#[42, 46]⟩ w
theorem hasPoint_call (s : ByteArray) (w : World) :
    Calls Tryd.prog 117 #[.string s, .string ⟨#[46]⟩] w fun e w' => e = .returned (.bool (decide (0 ≤ Lib.indexByte s.data.toList 46))) ∧ w' = w :=
  Any.strings_Contains_one Tryd.lays144 s 46 w

set_option maxRecDepth 10000 in
set_option maxHeartbeats 400000 in
theorem ruleRight_any (s : ByteArray) (w : World) (hG : MaxI w) (hs : s.size ≤ 1048576) :
    Calls Tryd.prog 99 #[.string s] w fun e w' => e = .returned (.bool (ruleB s)) ∧ Below w.heap.size w w' := by
  have HC : Hid (∀ W, Calls Tryd.prog 116 #[.string s, .string ⟨#[33]⟩] W fun e w' => e = .returned (.tuple #[.string (unbang s), .bool (bangB s)]) ∧ w' = W) := fun W => cutBang_call s W
  cases hb : bangB s with
  | true =>
    have HR : Hid (ruleB s = (hostB (unbang s) && decide (0 ≤ Lib.indexByte (unbang s).data.toList 46))) := ruleB_yes hb
    rw [hb] at HC
    have hz := unbang_le s
    have HH : Hid (Calls Tryd.prog 27 #[.string (unbang s)] w fun e w' => e = .returned (.bool (hostB (unbang s))) ∧ Below w.heap.size w w') := hostRight_any (unbang s) w hG (by omega)
    have HP : Hid (∀ W, Calls Tryd.prog 117 #[.string (unbang s), .string ⟨#[46]⟩] W fun e w' => e = .returned (.bool (decide (0 ≤ Lib.indexByte (unbang s).data.toList 46))) ∧ w' = W) := fun W => hasPoint_call (unbang s) W
    clear hb hG hz
    generalize decide (0 ≤ Lib.indexByte (unbang s).data.toList 46) = p at *
    generalize hostB (unbang s) = b at *
    generalize unbang s = u at *
    cases b with
    | false =>
      go_enter Tryd.func99, Tryd.ntmps99
      go_wp2_with (first | (go_at_call 116; refine (HC.out _).mono ?_; rintro e w1 ⟨rfl, rfl⟩) | (go_at_call 27; refine HH.out.mono ?_; rintro e w2 ⟨rfl, hb2⟩))
      go_ret
      exact ⟨ret_bool (by rw [HR.out]; rfl), hb2⟩
    | true =>
      go_enter Tryd.func99, Tryd.ntmps99
      go_wp2_with (first | (go_at_call 116; refine (HC.out _).mono ?_; rintro e w1 ⟨rfl, rfl⟩) | (go_at_call 27; refine HH.out.mono ?_; rintro e w2 ⟨rfl, hb2⟩) | (go_at_call 117; refine (HP.out _).mono ?_; rintro e w3 ⟨rfl, rfl⟩))
      go_ret
      exact ⟨ret_bool (by rw [HR.out]; rfl), hb2⟩
  | false =>
    have HR : Hid (ruleB s = hostB (unstar s)) := ruleB_no hb
    rw [hb] at HC
    have hz := unstar_le s
    have HH : Hid (Calls Tryd.prog 27 #[.string (unstar s)] w fun e w' => e = .returned (.bool (hostB (unstar s))) ∧ Below w.heap.size w w') := hostRight_any (unstar s) w hG (by omega)
    have HP : Hid (∀ W, Calls Tryd.prog 118 #[.string s, .string ⟨#[42, 46]⟩] W fun e w' => e = .returned (.string (unstar s)) ∧ w' = W) := fun W => trimStar_call s W
    clear hb hG hz
    generalize hostB (unstar s) = b at *
    generalize unstar s = u at *
    go_enter Tryd.func99, Tryd.ntmps99
    go_wp2_with (first | (go_at_call 116; refine (HC.out _).mono ?_; rintro e w1 ⟨rfl, rfl⟩) | (go_at_call 27; refine HH.out.mono ?_; rintro e w2 ⟨rfl, hb2⟩) | (go_at_call 118; refine (HP.out _).mono ?_; rintro e w3 ⟨rfl, rfl⟩))
    go_ret
    exact ⟨ret_bool (by rw [HR.out]), hb2⟩
end Go.Proofs.YtmlacbjlafdenaaDoor

/- The walk of the program's rulesApart. -/
namespace Go.Proofs.YtmlacbjlafdenaaDoor
open Go.RowKit

/-- two slices lie in two rows -/
def Apart (u v : Value) : Prop := ∀ b, u.ownBlock = some b → ¬ v.ownBlock = some b
theorem own_kept {w w' : World} {base n size : Nat} {e : TypeId} {v : Value} {xs : List Value} {row : Option Nat} (h : w.ownsRow base e size v n xs) (hg : w.grownBy w' row) (hne : ∀ b, v.ownBlock = some b → ¬ row = some b) : w'.ownsRow base e size v n xs := by
  obtain ⟨hl, ⟨rfl, h0⟩ | ⟨g, cap, cur, rfl, hb, hh, r⟩⟩ := h
  · exact ⟨hl, .inl ⟨rfl, h0⟩⟩
  · refine ⟨hl, .inr ⟨g, cap, cur, rfl, hb, ?_, r⟩⟩
    rw [hg.block g (Array.getElem?_eq_some_iff.mp hh).1 (fun e => hne g rfl (by simpa using e.symm))]
    exact hh
theorem own_lt {w : World} {base n size : Nat} {e : TypeId} {v : Value} {xs : List Value} (h : w.ownsRow base e size v n xs) : ∀ b, v.ownBlock = some b → b < w.heap.size := by
  intro b hb
  obtain ⟨hl, ⟨rfl, h0⟩ | ⟨g, cap, cur, rfl, _, hh, r⟩⟩ := h
  · cases hb
  · obtain rfl : g = b := by simpa [Value.ownBlock] using hb
    exact (Array.getElem?_eq_some_iff.mp hh).1
theorem Apart.symm {u v : Value} (h : Apart u v) : Apart v u := fun b hb hc => h b hc hb
theorem Apart.step {u u' v : Value} {k : Nat} (h : Apart u v) (hat : u'.ownBlock = u.ownBlock ∨ u'.ownBlock = some k) (hv : ∀ b, v.ownBlock = some b → b < k) : Apart u' v := by
  intro b hb hc
  rcases hat with e | e
  · rw [e] at hb; exact h b hb hc
  · rw [e] at hb
    obtain rfl := Option.some.inj hb
    exact absurd (hv _ hc) (by omega)

set_option maxRecDepth 10000 in
set_option maxHeartbeats 2000000 in
theorem apart_any (v : Value) (n B : Nat) (f : Nat → ByteArray) (w : World) (hs : SliceS w B v n f) (hn : n ≤ 1048576) :
    Calls Tryd.prog 119 #[v] w fun e w' => ∃ ve vo, e = .returned (.tuple #[ve, vo]) ∧ SliceS w' w.heap.size ve (exL f n).length (atL (exL f n)) ∧ SliceS w' w.heap.size vo (otL f n).length (atL (otL f n)) ∧ Below w.heap.size w w' := by
  obtain ⟨i0, hi, hz0, hz1, hz2⟩ := info_parts infoStr
  obtain ⟨p, cap, rfl, hg⟩ := hs
  have HG : Hid (0 < n → ∃ g, p = some ⟨g, 0, none⟩ ∧ B ≤ g ∧ g < w.heap.size ∧ ∀ j, j < n → w.cell? ⟨g, j, none⟩ = some (.string (f j)) ∧ w.frozen? ⟨g, j, none⟩ = false) := hg
  clear hg
  go_enter Tryd.func119, Tryd.ntmps119
  go_wp2
  go_loopw [2, 3, 10] (fun ve vo i wr => ∃ k : Nat, k ≤ n ∧ i = .int .i64 k ∧ Hid (wr.ownsRow w.heap.size 9 1 ve (exL f k).length (strCells (exL f k))) ∧ Hid (wr.ownsRow w.heap.size 9 1 vo (otL f k).length (strCells (otL f k))) ∧ Hid (Apart ve vo) ∧ Hid (Below w.heap.size w wr)) (fun _ _ i _ => n - (intOf i).toNat)
  case atStart => exact ⟨0, Nat.zero_le _, rfl, World.ownsRow_nil _ _ _ _, World.ownsRow_nil _ _ _ _, (fun b hb => by simp [Value.ownBlock] at hb : Apart _ _), Below.refl _ _⟩
  case round =>
    obtain ⟨k, hk, rfl, HE, HO, HA, HB⟩ := hrel
    by_cases hlt : k < n
    · obtain ⟨g, rfl, -, hgw, hc⟩ := HG.out (by omega)
      have hck : wr.cell? ⟨g, k, none⟩ = some (.string (f k)) := by rw [(bcell HB.out).1 _ _ hgw]; exact (hc k hlt).1
      have KC0 := fun W => cutBang_call (f k) W
      have k0 : (0 : Int) ≤ k := by omega
      have k1 : (k : Int) < n := by omega
      have hbs := HB.out.size
      have hle := exL_len f k
      have hlo := otL_len f k
      clear hc
      cases hb : bangB (f k) with
      | true =>
        rw [hb] at KC0
        have KC : Hid (∀ W, Calls Tryd.prog 116 #[.string (f k), .string ⟨#[33]⟩] W fun e w' => e = .returned (.tuple #[.string (unbang (f k)), .bool true]) ∧ w' = W) := KC0
        have HE1 : Hid (exL f (k + 1) = exL f k ++ [unbang (f k)]) := by show _ = _; rw [exL, if_pos hb]
        have HO1 : Hid (otL f (k + 1) = otL f k) := by show _ = _; rw [otL, if_pos hb]
        clear KC0 hb
        generalize f k = t at *
        generalize unbang t = u at *
        go_wp2_with (first | (go_at_call 116; refine (KC.out _).mono ?_; rintro e w1 ⟨rfl, rfl⟩) | (at_builtin; go_must (refine wpList_append_own_at _ rfl _ _ 43 rfl w.heap.size 9 i0 (.string ⟨#[]⟩) 1 16 Tryd.underlying43 hi hz0 hz1 hz2 rfl (by decide) _ _ _ rfl (HE.out.alloc _) ⟨w1.heap.size, 0, none⟩ 1 1 [.string u] rfl rfl (cell_one_new _ _ _) (by intro u hu; simp at hu; subst hu; rfl) (by unfold maxLen; omega) (by omega) (by simp; omega) ?_)))
        intro v' w2 hown3 hgrow _ hat
        rw [strCells_snoc] at hown3
        have hb2 : Below w.heap.size w w2 := (HB.out.alloc hbs _).grown hgrow (by simp; omega) (fun j hj => (HE.out.lt j hj).1)
        have hO2 := own_kept (HO.out.alloc (.cells #[.string u] 9)) hgrow HA.out.symm
        have hA2 := HA.out.step hat (fun b hb => by have := own_lt HO.out b hb; simp; omega)
        have G1 : Hid (w2.ownsRow w.heap.size 9 1 v' (exL f k ++ [u]).length (strCells (exL f k ++ [u]))) := by show World.ownsRow _ _ _ _ _ _ _; simpa using hown3
        have G2 : Hid (w2.ownsRow w.heap.size 9 1 u3 (otL f k).length (strCells (otL f k))) := hO2
        have G3 : Hid (Apart v' u3) := hA2
        have G4 : Hid (Below w.heap.size w w2) := hb2
        clear hown3 hgrow hat hb2 hO2 hA2
        go_wp2
        go_roundw
        case rel => exact ⟨k + 1, by omega, by go_num, by rw [HE1.out]; exact G1, by rw [HO1.out]; exact G2, G3, G4⟩
        case measure => simp [intOf]; omega
      | false =>
        rw [hb] at KC0
        have KC : Hid (∀ W, Calls Tryd.prog 116 #[.string (f k), .string ⟨#[33]⟩] W fun e w' => e = .returned (.tuple #[.string (unbang (f k)), .bool false]) ∧ w' = W) := KC0
        have HE1 : Hid (exL f (k + 1) = exL f k) := by show _ = _; rw [exL, if_neg (by rw [hb]; decide)]
        have HO1 : Hid (otL f (k + 1) = otL f k ++ [f k]) := by show _ = _; rw [otL, if_neg (by rw [hb]; decide)]
        clear KC0 hb
        generalize f k = t at *
        generalize unbang t = u at *
        go_wp2_with (first | (go_at_call 116; refine (KC.out _).mono ?_; rintro e w1 ⟨rfl, rfl⟩) | (at_builtin; go_must (refine wpList_append_own_at _ rfl _ _ 43 rfl w.heap.size 9 i0 (.string ⟨#[]⟩) 1 16 Tryd.underlying43 hi hz0 hz1 hz2 rfl (by decide) _ _ _ rfl (HO.out.alloc _) ⟨w1.heap.size, 0, none⟩ 1 1 [.string t] rfl rfl (cell_one_new _ _ _) (by intro u hu; simp at hu; subst hu; rfl) (by unfold maxLen; omega) (by omega) (by simp; omega) ?_)))
        intro v' w2 hown3 hgrow _ hat
        rw [strCells_snoc] at hown3
        have hb2 : Below w.heap.size w w2 := (HB.out.alloc hbs _).grown hgrow (by simp; omega) (fun j hj => (HO.out.lt j hj).1)
        have hE2 := own_kept (HE.out.alloc (.cells #[.string t] 9)) hgrow HA.out
        have hA2 := (HA.out.symm.step hat (fun b hb => by have := own_lt HE.out b hb; simp; omega)).symm
        have G1 : Hid (w2.ownsRow w.heap.size 9 1 v' (otL f k ++ [t]).length (strCells (otL f k ++ [t]))) := by show World.ownsRow _ _ _ _ _ _ _; simpa using hown3
        have G2 : Hid (w2.ownsRow w.heap.size 9 1 u2 (exL f k).length (strCells (exL f k))) := hE2
        have G3 : Hid (Apart u2 v') := hA2
        have G4 : Hid (Below w.heap.size w w2) := hb2
        clear hown3 hgrow hat hb2 hE2 hA2
        go_wp2
        go_roundw
        case rel => exact ⟨k + 1, by omega, by go_num, by rw [HE1.out]; exact G2, by rw [HO1.out]; exact G1, G3, G4⟩
        case measure => simp [intOf]; omega
    · obtain rfl : k = n := by omega
      go_wp2
      go_ret2
      exact ⟨_, _, rfl, slice_of_own HE.out, slice_of_own HO.out, HB.out⟩
end Go.Proofs.YtmlacbjlafdenaaDoor

/- The walk of the program's suffixBegin. -/
namespace Go.Proofs.YtmlacbjlafdenaaDoor
open Go.RowKit

theorem atL_mem {L : List ByteArray} : ∀ x ∈ L, ∃ i, i < L.length ∧ x = atL L i := fun x hx => by
  obtain ⟨i, hi, e⟩ := List.getElem_of_mem hx
  exact ⟨i, hi, by simp [atL, hi, e]⟩
set_option maxRecDepth 10000 in
set_option maxHeartbeats 1000000 in
theorem begin_any (v1 v2 : Value) (n m B1 B2 : Nat) (f h : Nat → ByteArray) (w : World) (hG : MaxI w) (h1 : SliceS w B1 v1 n f) (h2 : SliceS w B2 v2 m h) (l1 : n ≤ 1048576) (l2 : m ≤ 1048576) (hm : 1 ≤ m) (hf : ∀ i, i < n → (f i).size ≤ 1048576) :
    Calls Tryd.prog 100 #[v1, v2] w fun e w' => e = .returned (.int .i64 (beginN n f m h : Nat)) ∧ Below w.heap.size w w' := by
  have H2 : Hid (SliceS w B2 v2 m h) := h2
  have HG : Hid (MaxI w) := hG
  have KA : Hid (Calls Tryd.prog 119 #[v1] w fun e w' => ∃ ve vo, e = .returned (.tuple #[ve, vo]) ∧ SliceS w' w.heap.size ve (exL f n).length (atL (exL f n)) ∧ SliceS w' w.heap.size vo (otL f n).length (atL (otL f n)) ∧ Below w.heap.size w w') := apart_any v1 n B1 f w h1 l1
  have e1 := exL_len f n
  have e2 := otL_len f n
  have KL : Hid (∀ (v : Value) (B : Nat) (W : World), MaxI W → SliceS W B v (exL f n).length (atL (exL f n)) → SliceS W B2 v2 m h → Calls Tryd.prog 120 #[v, v2] W fun e w' => e = .returned (.int .i64 (longN (exL f n) m h : Nat)) ∧ Below W.heap.size W w') :=
    fun v B W a b c => longest_any v v2 B B2 m (exL f n) h W a b c (by omega) l2 (exL_small hf)
  have KO : Hid (∀ (v : Value) (B : Nat) (W : World), MaxI W → SliceS W B v (otL f n).length (atL (otL f n)) → SliceS W B2 v2 m h → Calls Tryd.prog 120 #[v, v2] W fun e w' => e = .returned (.int .i64 (longN (otL f n) m h : Nat)) ∧ Below W.heap.size W w') :=
    fun v B W a b c => longest_any v v2 B B2 m (otL f n) h W a b c (by omega) l2 (otL_small hf)
  have b1 := longN_le (exL f n) m h
  have b2 := longN_le (otL f n) m h
  have EB : Hid (beginN n f m h = if longN (exL f n) m h < m then longN (exL f n) m h + 1 else min (longN (otL f n) m h) (m - 1)) := rfl
  obtain ⟨p2, c2, rfl, -⟩ := h2
  clear hG h1 hf e1 e2
  generalize beginN n f m h = R at *
  generalize longN (exL f n) m h = x at *
  generalize longN (otL f n) m h = y at *
  go_enter Tryd.func100, Tryd.ntmps100
  go_wp2_with fail
  refine KA.out.mono ?_
  rintro e w1 ⟨ve, vo, rfl, se, so, hb1⟩
  have SO : Hid (SliceS w1 w.heap.size vo (otL f n).length (atL (otL f n))) := so
  have SE : Hid (SliceS w1 w.heap.size ve (exL f n).length (atL (exL f n))) := se
  have B1' : Hid (Below w.heap.size w w1) := hb1
  clear se so hb1
  go_wp2_with fail
  refine (KL.out ve _ w1 (HG.out.on B1'.out) SE.out (H2.out.below B1'.out)).mono ?_
  rintro e w2 ⟨rfl, hb2⟩
  have SO2 : Hid (SliceS w2 w.heap.size vo (otL f n).length (atL (otL f n))) := SO.out.below hb2
  have B2' : Hid (Below w.heap.size w w2) := B1'.out.trans (hb2.mono B1'.out.size)
  clear hb2 SO SE
  by_cases hx : x < m
  · have HQ : Hid (R = x + 1) := by show _ = _; rw [EB.out, if_pos hx]
    go_wp2
    go_ret
    exact ⟨ret_int (by rw [HQ.out]; omega), B2'.out⟩
  · have HQ : Hid (R = min y (m - 1)) := by show _ = _; rw [EB.out, if_neg hx]
    have KO2 := KO.out vo _ w2 (HG.out.on B2'.out) SO2.out (H2.out.below B2'.out)
    go_wp2_with fail
    refine KO2.mono ?_
    rintro e w3 ⟨rfl, hb3⟩
    clear KO2
    go_wp2
    go_ret
    exact ⟨ret_int (by rw [HQ.out]; omega), B2'.out.trans (hb3.mono B2'.out.size)⟩
end Go.Proofs.YtmlacbjlafdenaaDoor

/- The walk of the specification's LabelsOf. -/
namespace Go.Proofs.YtmlacbjlafdenaaDoor
open Go.RowKit

set_option maxRecDepth 10000 in
set_option maxHeartbeats 400000 in
theorem specLabelsOf_no (s : ByteArray) (w : World) (h : hostB s = false) :
    Calls Tryd.prog 26 #[.string s] w fun e w' => ∃ v, e = .returned v ∧ w'.ownsRow w.heap.size 9 1 v 0 [] ∧ Below w.heap.size w w' := by
  have H1 := fun W => specHost_any s W
  rw [h] at H1
  have G1 : Hid (∀ W, Calls Tryd.prog 28 #[.string s] W fun e w' => e = .returned (.bool false) ∧ Below W.heap.size W w') := H1
  clear H1 h
  go_enter Tryd.func26, Tryd.ntmps26
  go_wp2_with fail
  refine (G1.out _).mono ?_
  rintro e w1 ⟨rfl, hb⟩
  go_wp2
  go_ret
  exact ⟨_, rfl, World.ownsRow_made w1 #[] 0 hb.size (Nat.zero_le _) rfl, hb.alloc hb.size _⟩

theorem own_base {w : World} {base base' n : Nat} {e : TypeId} {v : Value} {xs : List Value} (h : w.ownsRow base e 1 v n xs) (hb : base' ≤ base) : w.ownsRow base' e 1 v n xs := by
  obtain ⟨h1, h2 | ⟨g, cap, cur, hv, hg, h3⟩⟩ := h
  · exact ⟨h1, .inl h2⟩
  · exact ⟨h1, .inr ⟨g, cap, cur, hv, Nat.le_trans hb hg, h3⟩⟩

set_option maxRecDepth 10000 in
set_option maxHeartbeats 400000 in
theorem specLabelsOf_yes (s : ByteArray) (w : World) (h : hostB s = true) :
    Calls Tryd.prog 26 #[.string s] w fun e w' => ∃ v, e = .returned v ∧ w'.ownsRow w.heap.size 9 1 v (splitB s 46).length (strCells (splitB s 46)) ∧ Below w.heap.size w w' := by
  have hsz : s.size ≤ 100 := by
    by_cases hz : 100 < s.size
    · rw [hostB_size hz] at h; cases h
    · omega
  have H1 := fun W => specHost_any s W
  rw [h] at H1
  have G1 : Hid (∀ W, Calls Tryd.prog 28 #[.string s] W fun e w' => e = .returned (.bool true) ∧ Below W.heap.size W w') := H1
  have G2 : Hid (∀ W, Calls Tryd.prog 70 #[.string s, .int .u8 46] W fun e w' => ∃ v, e = .returned v ∧ w'.ownsRow W.heap.size 9 1 v (splitB s 46).length (strCells (splitB s 46)) ∧ Below W.heap.size W w') := fun W => split_any s 46 W (by omega)
  clear H1 h
  go_enter Tryd.func26, Tryd.ntmps26
  go_wp2_with fail
  refine (G1.out _).mono ?_
  rintro e w1 ⟨rfl, hb⟩
  go_wp2_with fail
  refine (G2.out _).mono ?_
  rintro e w2 ⟨v, rfl, hown, hb2⟩
  go_wp2
  go_ret
  exact ⟨_, rfl, own_base hown hb.size, hb.trans (hb2.mono hb.size)⟩
end Go.Proofs.YtmlacbjlafdenaaDoor

/- The law FnExactLabelsOf, walked, over what the program's LabelsOf answers. -/
namespace Go.Proofs.YtmlacbjlafdenaaDoor
open Go.RowKit

/-- a right host's labels, else none -/
def labelsL (s : ByteArray) : List ByteArray := if hostB s = true then splitB s 46 else []
theorem labelsL_len (s : ByteArray) : (labelsL s).length ≤ 101 := by
  unfold labelsL
  split
  · rename_i h
    have hsz : s.size ≤ 100 := by
      by_cases hz : 100 < s.size
      · rw [hostB_size hz] at h; cases h
      · omega
    have := splitB_len s 46
    omega
  · simp
set_option maxRecDepth 10000 in
set_option maxHeartbeats 400000 in
theorem specLabelsOf_any (s : ByteArray) (w : World) :
    Calls Tryd.prog 26 #[.string s] w fun e w' => ∃ v, e = .returned v ∧ SliceS w' w.heap.size v (labelsL s).length (atL (labelsL s)) ∧ Below w.heap.size w w' := by
  by_cases h : hostB s = true
  · refine (specLabelsOf_yes s w h).mono ?_
    rintro e w' ⟨v, rfl, ho, hb⟩
    refine ⟨v, rfl, ?_, hb⟩
    rw [labelsL, if_pos h]
    exact slice_of_own ho
  · refine (specLabelsOf_no s w (by simpa using h)).mono ?_
    rintro e w' ⟨v, rfl, ho, hb⟩
    refine ⟨v, rfl, ?_, hb⟩
    rw [labelsL, if_neg h]
    exact slice_of_own (L := []) ho

theorem SliceS.far {w w' : World} {B n : Nat} {v : Value} {f : Nat → ByteArray} {K : Nat} (h : SliceS w B v n f) (hK : w.heap.size ≤ K) {u : World} (hs : SliceS u B v n f) (hb : Below K u w') : SliceS w' B v n f := by
  cases n with
  | zero =>
    obtain ⟨p, cap, rfl, h⟩ := hs
    exact ⟨p, cap, rfl, fun h => absurd h (by omega)⟩
  | succ n => exact hs.kept hb (fun g cap m e => Nat.lt_of_lt_of_le (h.lt g cap m e) hK)

end Go.Proofs.YtmlacbjlafdenaaDoor

/- The walk of together: two texts put together in new memory. -/
namespace Go.Proofs.YtmlacbjlafdenaaDoor
open Go.RowKit


set_option maxRecDepth 10000 in
set_option maxHeartbeats 400000 in
theorem together_full (x y : ByteArray) (w : World) (hz : x.size + y.size ≤ 1000000) (hy : ¬ y = ByteArray.empty) :
    Calls Tryd.prog 55 #[.string x, .string y] w fun e w' => e = .returned (.string (x ++ y)) ∧ Below w.heap.size w w' := by
  obtain ⟨w1, Z, hmk, HG1, hZ, hs1, hb1⟩ := make_row (P := Tryd.prog) w 22 5 _ Tryd.underlying22 infoU8 ((x.size : Int) + (y.size : Int)) (x.size + y.size) (by omega) (by omega)
  go_enter Tryd.func55, Tryd.ntmps55
  go_wp2_with fail
  obtain ⟨w2, hc2, HG2, hs2, hB2⟩ := copy_text (P := Tryd.prog) w1 22 9 3 5 Tryd.underlying22 sizeU8 (some ⟨w.heap.size, 0, none⟩) (x.size + y.size) (x.size + y.size) x (by omega) w.heap.size 0 Z _ HG1 (fun _ => rfl) (by omega)
  have hb2 := hB2 _ _ hb1 (Nat.le_refl _)
  rw [hc2]
  clear hc2 hmk hB2 HG1 hb1
  go_wp2_with fail
  have hl2 : (splice Z 0 (Lib.byteCells x.data.toList)).length = x.size + y.size := by rw [length_splice _ _ _ (by rw [len_cells]; omega), hZ]
  obtain ⟨w3, hc3, HG3, hs3, hB3⟩ := copy_text (P := Tryd.prog) w2 22 9 3 5 Tryd.underlying22 sizeU8 (some ⟨w.heap.size, x.size, none⟩) y.size y.size y (by omega) w.heap.size x.size _ _ HG2 (fun _ => rfl) (by omega)
  have hb3 := hB3 _ _ hb2 (Nat.le_refl _)
  have HG4 : RowAt w3 w.heap.size 5 (Lib.byteCells (x.data.toList ++ y.data.toList) ++ []) := by
    have e := splice_two Z (Lib.byteCells x.data.toList) (Lib.byteCells y.data.toList) (by rw [len_cells, len_cells]; exact hZ)
    rw [len_cells] at e
    rw [e, ← byteCells_append, ← List.append_nil (Lib.byteCells _)] at HG3
    exact HG3
  rw [hc3]
  clear hc3 hB3 HG2 HG3 hb2 hl2
  go_wp2_with fail
  rw [text_of_row (P := Tryd.prog) w3 22 9 5 Tryd.underlying22 Tryd.underlying5 Tryd.underlying9 w.heap.size (x.size + y.size) (x.size + y.size) 5 _ _ HG4 (by rw [List.length_append, ← Lib.size_eq, ← Lib.size_eq])]
  go_wp2
  go_ret
  exact ⟨ret_text (text_append x y), hb3⟩

set_option maxRecDepth 10000 in
set_option maxHeartbeats 400000 in
theorem together_empty (x : ByteArray) (w : World) (hz : x.size ≤ 1000000) :
    Calls Tryd.prog 55 #[.string x, .string ByteArray.empty] w fun e w' => e = .returned (.string x) ∧ Below w.heap.size w w' := by
  obtain ⟨w1, Z, hmk, HG1, hZ, hs1, hb1⟩ := make_row (P := Tryd.prog) w 22 5 _ Tryd.underlying22 infoU8 (x.size : Int) x.size (by omega) (by omega)
  go_enter Tryd.func55, Tryd.ntmps55
  go_wp2_with fail
  obtain ⟨w2, hc2, HG2, hs2, hB2⟩ := copy_text (P := Tryd.prog) w1 22 9 3 5 Tryd.underlying22 sizeU8 (some ⟨w.heap.size, 0, none⟩) x.size x.size x (by omega) w.heap.size 0 Z _ HG1 (fun _ => rfl) (by omega)
  have hb2 := hB2 _ _ hb1 (Nat.le_refl _)
  rw [hc2]
  clear hc2 hmk hB2 HG1 hb1
  go_wp2_with fail
  have HG4 : RowAt w2 w.heap.size 5 (Lib.byteCells x.data.toList ++ []) := by
    have e : splice Z 0 (Lib.byteCells x.data.toList) = Lib.byteCells x.data.toList ++ [] := by
      unfold splice
      rw [List.drop_eq_nil_of_le (by rw [len_cells]; omega)]
      simp
    rw [e] at HG2
    exact HG2
  rw [Lib.run_copy_empty_string (P := Tryd.prog) w2 22 9 3 5 (some ⟨w.heap.size, 0, none⟩) 0 0 ByteArray.empty Tryd.underlying22 (by rw [Option.isSome_iff_exists]; exact ⟨1, sizeU8⟩) rfl]
  go_wp2_with fail
  rw [text_of_row (P := Tryd.prog) w2 22 9 5 Tryd.underlying22 Tryd.underlying5 Tryd.underlying9 w.heap.size x.size x.size 5 _ _ HG4 (by rw [← Lib.size_eq])]
  go_wp2
  go_ret
  exact ⟨rfl, hb2⟩
theorem together_any (x y : ByteArray) (w : World) (hz : x.size + y.size ≤ 1000000) :
    Calls Tryd.prog 55 #[.string x, .string y] w fun e w' => e = .returned (.string (x ++ y)) ∧ Below w.heap.size w w' := by
  by_cases hy : y = ByteArray.empty
  · subst hy
    rw [ByteArray.append_empty]
    exact together_empty x w (by omega)
  · exact together_full x y w hz hy

end Go.Proofs.YtmlacbjlafdenaaDoor

/- The walk of the program's LabelsOf. -/
namespace Go.Proofs.YtmlacbjlafdenaaDoor
open Go.RowKit

theorem atL_get {L : List ByteArray} {k : Nat} (h : k < L.length) : atL L k = L[k] := by simp [atL, h]

set_option maxRecDepth 10000 in
set_option maxHeartbeats 400000 in
theorem labelsOf_cap (s : ByteArray) (w : World) (hG : MaxI w) (hs : s.size ≤ 1048576) :
    Calls Tryd.prog 25 #[.string s] w fun e w' => ∃ v, e = .returned v ∧ SliceS w' w.heap.size v (labelsL s).length (atL (labelsL s)) ∧ Below w.heap.size w w' ∧ ∃ p c, v = .slice p (labelsL s).length c ∧ (labelsL s).length ≤ c := by
  cases hh : hostB s with
  | false =>
    have HL : Hid (labelsL s = []) := by
      show _ = _
      rw [labelsL, if_neg (by simp [hh])]
    have HC : Hid (Calls Tryd.prog 27 #[.string s] w fun e w' => e = .returned (.bool false) ∧ Below w.heap.size w w') := by
      have := hostRight_any s w hG hs
      rw [hh] at this; exact this
    clear hh hG
    go_enter Tryd.func25, Tryd.ntmps25
    go_wp2_with (go_at_call 27; refine HC.out.mono ?_; rintro e w1 ⟨rfl, hb⟩)
    go_ret
    exact ⟨_, rfl, by rw [HL.out]; exact ⟨none, 0, rfl, fun h => absurd h (by simp)⟩, hb, by rw [HL.out]; exact ⟨_, _, rfl, Nat.le_refl _⟩⟩
  | true =>
    have HL : Hid (labelsL s = splitB s 46) := by
      show _ = _
      rw [labelsL, if_pos hh]
    have HC : Hid (Calls Tryd.prog 27 #[.string s] w fun e w' => e = .returned (.bool true) ∧ Below w.heap.size w w') := by
      have := hostRight_any s w hG hs
      rw [hh] at this; exact this
    have HS : Hid (∀ W, MaxI W → Calls Tryd.prog 69 #[.string s, .string ⟨#[46]⟩] W fun e w' => e = .returned (.slice (some ⟨W.heap.size, 0, none⟩) (splitB s 46).length (splitB s 46).length) ∧ w' = W.alloc (.cells (strCells (splitB s 46)).toArray 9)) := fun W h => split_call s W h (by omega)
    have hn := splitB_len s 46
    have hsz : s.size ≤ 100 := by
      by_cases hz : 100 < s.size
      · rw [hostB_size hz] at hh; cases hh
      · omega
    have HZ : Hid (∀ x ∈ splitB s 46, x.size ≤ 100) := fun x hx => Nat.le_trans (piece_le hx) hsz
    have HG : Hid (MaxI w) := hG
    clear hh hG
    rw [HL.out]
    clear HL
    generalize splitB s 46 = L at *
    go_enter Tryd.func25, Tryd.ntmps25
    go_wp2_with (go_at_call 27; refine HC.out.mono ?_; rintro e w1 ⟨rfl, hb⟩)
    refine (HS.out _ (HG.out.on hb)).mono ?_
    rintro e w2 ⟨rfl, rfl⟩
    have hcell : ∀ k (h : k < L.length), (w1.alloc (.cells (strCells L).toArray 9)).cell? ⟨w1.heap.size, k, none⟩ = some (.string L[k]) ∧ (w1.alloc (.cells (strCells L).toArray 9)).frozen? ⟨w1.heap.size, k, none⟩ = false := by
      intro k hk
      exact ⟨by simp [strCells, hk], by simp⟩
    have hb2 : Below w.heap.size w (w1.alloc (.cells (strCells L).toArray 9)) := hb.alloc hb.size _
    have hz1 : w1.heap.size < (w1.alloc (.cells (strCells L).toArray 9)).heap.size := by simp
    have hz0 := hb.size
    generalize w1.alloc (.cells (strCells L).toArray 9) = w2 at *
    clear hb
    have HC0 : Hid (∀ k (h : k < L.length), w2.cell? ⟨w1.heap.size, k, none⟩ = some (.string L[k]) ∧ w2.frozen? ⟨w1.heap.size, k, none⟩ = false) := hcell
    have HB0 : Hid (Below w.heap.size w w2) := hb2
    clear hcell hb2
    go_wp2
    go_loopw [13] (fun i wr => ∃ k : Nat, k ≤ L.length ∧ i = .int .i64 k ∧ w1.heap.size < wr.heap.size ∧ Hid (Below w.heap.size w wr) ∧ Hid (∀ j (h : j < L.length), wr.cell? ⟨w1.heap.size, j, none⟩ = some (.string L[j]) ∧ wr.frozen? ⟨w1.heap.size, j, none⟩ = false)) (fun i _ => L.length - (intOf i).toNat)
    case atStart => exact ⟨0, by omega, rfl, hz1, HB0, HC0⟩
    case round =>
      obtain ⟨k, hk, rfl, hzr, HB, HR⟩ := hrel
      by_cases hlt : k < L.length
      · have hck := (HR.out k hlt).1
        have HT : Hid (∀ W, Calls Tryd.prog 55 #[.string L[k], .string ⟨#[]⟩] W fun e w' => e = .returned (.string L[k]) ∧ Below W.heap.size W w') := fun W => together_empty L[k] W (by have := HZ.out L[k] (List.getElem_mem hlt); omega)
        generalize hx : L[k] = x at *
        have HX : Hid (L[k] = x) := hx
        clear hx
        go_wp2_with fail
        refine (HT.out _).mono ?_
        rintro e w3 ⟨rfl, hb3⟩
        have hz3 := hb3.size
        have c1 : w3.cell? ⟨w1.heap.size, k, none⟩ = some (.string x) := by rw [(bcell hb3).1 _ _ hzr]; exact hck
        have c2 : w3.frozen? ⟨w1.heap.size, k, none⟩ = false := by rw [(bcell hb3).2 _ _ hzr]; exact (HR.out k hlt).2
        have HR3 : Hid (∀ j (h : j < L.length), w3.cell? ⟨w1.heap.size, j, none⟩ = some (.string L[j]) ∧ w3.frozen? ⟨w1.heap.size, j, none⟩ = false) := fun j hj => ⟨by rw [(bcell hb3).1 _ _ hzr]; exact (HR.out j hj).1, by rw [(bcell hb3).2 _ _ hzr]; exact (HR.out j hj).2⟩
        have HB3 : Hid (Below w.heap.size w w3) := HB.out.trans (hb3.mono (by omega))
        clear hb3 hck
        go_wp2
        go_roundw
        case rel =>
          refine ⟨k + 1, by omega, by go_num, ?_, ?_, ?_⟩
          · simp [World.setCell]; omega
          · exact HB3.out.setCell (by simpa using hz0) _
          · intro j hj
            by_cases e : j = k
            · subst e
              rw [HX.out]
              exact ⟨World.cell?_setCell_same _ _ _ c1, by rw [World.frozen?_setCell]; exact c2⟩
            · rw [World.cell?_setCell_other _ _ _ _ (by intro h; injection h with _ h; exact e h.symm), World.frozen?_setCell]
              exact HR3.out j hj
        case measure => simp [intOf]; omega
      · go_wp2
        go_ret
        exact ⟨_, rfl, ⟨_, _, rfl, fun _ => ⟨w1.heap.size, rfl, hz0, hzr, fun j hj => by rw [atL_get hj]; exact HR.out j hj⟩⟩, HB.out, _, _, rfl, Nat.le_refl _⟩
theorem labelsOf_any (s : ByteArray) (w : World) (hG : MaxI w) (hs : s.size ≤ 1048576) :
    Calls Tryd.prog 25 #[.string s] w fun e w' => ∃ v, e = .returned v ∧ SliceS w' w.heap.size v (labelsL s).length (atL (labelsL s)) ∧ Below w.heap.size w w' :=
  (labelsOf_cap s w hG hs).mono fun _ _ ⟨v, he, h1, h2, _⟩ => ⟨v, he, h1, h2⟩
end Go.Proofs.YtmlacbjlafdenaaDoor

/- The walk of the specification's RulesRight. -/
namespace Go.Proofs.YtmlacbjlafdenaaDoor
open Go.RowKit

/-- the rule at a place is right, and greater than the one ahead of it -/
def okR (f : Nat → ByteArray) : Nat → Bool
  | 0 => ruleB (f 0)
  | m + 1 => ruleB (f (m + 1)) && Op.bytesLess (f m).toList (f (m + 1)).toList
def rulesB (n : Nat) (f : Nat → ByteArray) : Bool := decide (∀ i, i < n → okR f i = true) && decide (n ≤ 20)
theorem rulesB_at {n : Nat} {f : Nat → ByteArray} (k : Nat) (h : k < n) (hk : okR f k = false) : rulesB n f = false := by
  unfold rulesB
  rw [decide_eq_false (fun h' => by rw [h' k h] at hk; cases hk)]; rfl
theorem rulesB_all {n : Nat} {f : Nat → ByteArray} (h : ∀ i, i < n → okR f i = true) : rulesB n f = decide (n ≤ 20) := by unfold rulesB; rw [decide_eq_true h]; rfl
theorem okR_succ {f : Nat → ByteArray} {k : Nat} (h : ∀ i, i < k → okR f i = true) (hk : okR f k = true) : ∀ i, i < k + 1 → okR f i = true := by
  intro i hi
  by_cases e : i = k
  · subst e; exact hk
  · exact h i (by omega)
theorem geq_text (t : TypeId) (a b : ByteArray) : binOp .geq t (.string a) (.string b) = pure (.bool (!(Op.bytesLess a.toList b.toList))) := by simp [binOp, Op.stringOp]

set_option maxRecDepth 10000 in
set_option maxHeartbeats 2000000 in
theorem specRules_any (v : Value) (n B : Nat) (f : Nat → ByteArray) (w : World) (hs : SliceS w B v n f) (hn : n ≤ 1048576) (hf : ∀ i, i < n → (f i).size ≤ 1048576) :
    Calls Tryd.prog 45 #[v] w fun e w' => e = .returned (.bool (rulesB n f)) ∧ Below w.heap.size w w' := by
  obtain ⟨p, cap, rfl, hg⟩ := hs
  have HG : Hid (0 < n → ∃ g, p = some ⟨g, 0, none⟩ ∧ B ≤ g ∧ g < w.heap.size ∧ ∀ j, j < n → w.cell? ⟨g, j, none⟩ = some (.string (f j)) ∧ w.frozen? ⟨g, j, none⟩ = false) := hg
  have HF : Hid (∀ i, i < n → (f i).size ≤ 1048576) := hf
  have HA : Hid ((∀ k, k < n → okR f k = false → rulesB n f = false) ∧ ((∀ i, i < n → okR f i = true) → rulesB n f = decide (n ≤ 20))) := ⟨fun k h hk => rulesB_at k h hk, fun h => rulesB_all h⟩
  clear hg hf
  have hge : ∀ (t : TypeId) (a b : ByteArray), binOp .geq t (.string a) (.string b) = pure (.bool (!(Op.bytesLess a.toList b.toList))) := geq_text
  generalize rulesB n f = R at *
  go_enter Tryd.func45, Tryd.ntmps45
  go_wp2
  go_loopw [3] (fun i wr => ∃ k : Nat, k ≤ n ∧ i = .int .i64 k ∧ Hid (Below w.heap.size w wr) ∧ Hid (∀ j, j < k → okR f j = true)) (fun i _ => n - (intOf i).toNat)
  case atStart => exact ⟨0, Nat.zero_le _, rfl, Below.refl _ _, fun j hj => absurd hj (by omega)⟩
  case round =>
    obtain ⟨k, hk, rfl, HB, HR⟩ := hrel
    by_cases hlt : k < n
    · obtain ⟨g, rfl, -, hgw, hc⟩ := HG.out (by omega)
      have hz : g < wr.heap.size := Nat.lt_of_lt_of_le hgw HB.out.size
      have hck : wr.cell? ⟨g, k, none⟩ = some (.string (f k)) := by rw [(bcell HB.out).1 _ _ hgw]; exact (hc k hlt).1
      have KR0 := fun W => specRule_any (f k) W (HF.out k hlt)
      have k0 : (0 : Int) ≤ k := by omega
      have k1 : (k : Int) < n := by omega
      cases hr : ruleB (f k) with
      | false =>
        have HQ : Hid (R = false) := HA.out.1 k hlt (by cases k with | zero => exact hr | succ m => rw [okR, hr]; rfl)
        rw [hr] at KR0
        have KR : Hid (∀ W, Calls Tryd.prog 81 #[.string (f k)] W fun e w' => e = .returned (.bool false) ∧ Below W.heap.size W w') := KR0
        clear KR0 hr hc
        generalize f k = t at *
        go_wp2_with fail
        refine wp_region_held_drew (S := (fun w' => g < w'.heap.size ∧ w'.cell? ⟨g, k, none⟩ = some (.string t))) (by kernel_rfl) ?_ (fun hH0 => ?_)
        · (try dsimp only)
          go_keep
        refine wpAnyH_take (i := 0) (oi := { dst := some 10, op := Op.move (Operand.tmp 0), type := 43, pos := "l03_site.go:17", after := #[], guard := none }) (v := ?va0) rfl (by kernel_rfl) (by kernel_rfl) (by kernel_rfl) (fun _ _ _ h => h) (Or.inl ⟨by rfl, ?hya0⟩) (by assumption) ?resta0
        case hya0 =>
          intro w hSw
          (try dsimp only at hSw)
          go_simp
          try with_reducible rfl
        try simp only [Act.put, List.setIfInBounds_toArray, List.set_cons_zero, List.set_cons_succ]
        refine wpAnyH_take (i := 1) (oi := { dst := some 11, op := Op.move (Operand.tmp 3), type := 3, pos := "l03_site.go:17", after := #[], guard := none }) (v := ?va1) rfl (by kernel_rfl) (by kernel_rfl) (by kernel_rfl) (fun _ _ _ h => h) (Or.inl ⟨by rfl, ?hya1⟩) (by assumption) ?resta1
        case hya1 =>
          intro w hSw
          (try dsimp only at hSw)
          go_simp
          try with_reducible rfl
        try simp only [Act.put, List.setIfInBounds_toArray, List.set_cons_zero, List.set_cons_succ]
        refine wpAnyH_take (i := 2) (oi := { dst := some 12, op := Op.indexAddr 43 (Operand.tmp 10) (Operand.tmp 11), type := 0, pos := "l03_site.go:17", after := #[{ on := 0, ground := Ground.data }, { on := 1, ground := Ground.data }], guard := none }) (v := ?va2) rfl (by kernel_rfl) (by kernel_rfl) (by kernel_rfl) (fun _ _ _ h => h) (Or.inl ⟨by rfl, ?hya2⟩) (by assumption) ?resta2
        case hya2 =>
          intro w hSw
          (try dsimp only at hSw)
          go_simp
          try with_reducible rfl
        try simp only [Act.put, List.setIfInBounds_toArray, List.set_cons_zero, List.set_cons_succ]
        refine wpAnyH_take (i := 3) (oi := { dst := some 13, op := Op.load 9 (Operand.tmp 12), type := 9, pos := "l03_site.go:17", after := #[{ on := 2, ground := Ground.data }], guard := none }) (v := ?va3) rfl (by kernel_rfl) (by kernel_rfl) (by kernel_rfl) (fun _ _ _ h => h) (Or.inl ⟨by rfl, ?hya3⟩) (by assumption) ?resta3
        case hya3 =>
          intro w hSw
          (try dsimp only at hSw)
          go_simp
          try with_reducible rfl
        try simp only [Act.put, List.setIfInBounds_toArray, List.set_cons_zero, List.set_cons_succ]
        refine wpAnyH_ready (rs := [4]) (by kernel_rfl) (by simp) ?_
        refine AllReadyH.cons (o := { dst := some 14, op := Op.call { callee := Callee.value (Operand.func 81), args := #[Operand.tmp 13], argTypes := #[9] }, type := 4, pos := "l03_site.go:17", after := #[{ on := 3, ground := Ground.data }], guard := none }) rfl (fun K hK => ?_) AllReadyH.nil
        go_simp
        (go_at_call 81; refine (KR.out _).mono ?_; rintro e w2 ⟨rfl, hb2⟩; have z2 : g < w2.heap.size := Nat.lt_of_lt_of_le hz hb2.size; have c2 : w2.cell? ⟨g, k, none⟩ = some (.string t) := ((bcell hb2).1 _ _ hz).trans hck)
        try (go_wp2_with fail)
        refine hK.out _ _ ?_ (fun hH1 => ?_)
        · (try dsimp only)
          go_keep
        clear hK K hH0
        try simp only [Act.put, List.setIfInBounds_toArray, List.set_cons_zero, List.set_cons_succ]
        refine wpAnyH_take (i := 5) (oi := { dst := some 15, op := Op.unOp UnOp.not 4 (Operand.tmp 14), type := 4, pos := "l03_site.go:17", after := #[{ on := 4, ground := Ground.data }], guard := none }) (v := ?va5) rfl (by kernel_rfl) (by kernel_rfl) (by kernel_rfl) (fun _ _ _ h => h) (Or.inl ⟨by rfl, ?hya5⟩) (by assumption) ?resta5
        case hya5 =>
          intro w hSw
          (try dsimp only at hSw)
          go_simp
          try with_reducible rfl
        try simp only [Act.put, List.setIfInBounds_toArray, List.set_cons_zero, List.set_cons_succ]
        refine wpAnyH_take (i := 6) (oi := { dst := some 16, op := Op.move (Operand.tmp 15), type := 4, pos := "l03_site.go:17", after := #[{ on := 5, ground := Ground.data }, { on := 4, ground := Ground.chain }], guard := none }) (v := ?va6) rfl (by kernel_rfl) (by kernel_rfl) (by kernel_rfl) (fun _ _ _ h => h) (Or.inl ⟨by rfl, ?hya6⟩) (by assumption) ?resta6
        case hya6 =>
          intro w hSw
          (try dsimp only at hSw)
          go_simp
          try with_reducible rfl
        try simp only [Act.put, List.setIfInBounds_toArray, List.set_cons_zero, List.set_cons_succ]
        refine wpAnyH_take (i := 7) (oi := { dst := some 17, op := Op.move (Operand.tmp 3), type := 3, pos := "l03_site.go:17", after := #[{ on := 6, ground := Ground.guard }], guard := some (6, false) }) (v := undef) rfl (by kernel_rfl) (by kernel_rfl) (by kernel_rfl) (fun _ _ _ h => h) (Or.inr ⟨by rfl, rfl⟩) (by assumption) ?_
        try simp only [Act.put, List.setIfInBounds_toArray, List.set_cons_zero, List.set_cons_succ]
        refine wpAnyH_take (i := 8) (oi := { dst := some 18, op := Op.binOp BinOp.gtr 3 (Operand.tmp 17) (Operand.const (Value.int IntKind.i64 0)) 3, type := 4, pos := "l03_site.go:17", after := #[{ on := 7, ground := Ground.data }, { on := 6, ground := Ground.guard }], guard := some (6, false) }) (v := undef) rfl (by kernel_rfl) (by kernel_rfl) (by kernel_rfl) (fun _ _ _ h => h) (Or.inr ⟨by rfl, rfl⟩) (by assumption) ?_
        try simp only [Act.put, List.setIfInBounds_toArray, List.set_cons_zero, List.set_cons_succ]
        refine wpAnyH_take (i := 9) (oi := { dst := some 19, op := Op.move (Operand.tmp 18), type := 4, pos := "l03_site.go:17", after := #[{ on := 8, ground := Ground.data }, { on := 6, ground := Ground.chain }, { on := 6, ground := Ground.guard }], guard := some (6, false) }) (v := undef) rfl (by kernel_rfl) (by kernel_rfl) (by kernel_rfl) (fun _ _ _ h => h) (Or.inr ⟨by rfl, rfl⟩) (by assumption) ?_
        try simp only [Act.put, List.setIfInBounds_toArray, List.set_cons_zero, List.set_cons_succ]
        refine wpAnyH_take (i := 10) (oi := { dst := some 20, op := Op.move (Operand.tmp 0), type := 43, pos := "l03_site.go:17", after := #[{ on := 9, ground := Ground.guard }], guard := some (9, true) }) (v := undef) rfl (by kernel_rfl) (by kernel_rfl) (by kernel_rfl) (fun _ _ _ h => h) (Or.inr ⟨by rfl, rfl⟩) (by assumption) ?_
        try simp only [Act.put, List.setIfInBounds_toArray, List.set_cons_zero, List.set_cons_succ]
        refine wpAnyH_take (i := 11) (oi := { dst := some 21, op := Op.move (Operand.tmp 3), type := 3, pos := "l03_site.go:17", after := #[{ on := 9, ground := Ground.guard }], guard := some (9, true) }) (v := undef) rfl (by kernel_rfl) (by kernel_rfl) (by kernel_rfl) (fun _ _ _ h => h) (Or.inr ⟨by rfl, rfl⟩) (by assumption) ?_
        try simp only [Act.put, List.setIfInBounds_toArray, List.set_cons_zero, List.set_cons_succ]
        refine wpAnyH_take (i := 12) (oi := { dst := some 22, op := Op.binOp BinOp.sub 3 (Operand.tmp 21) (Operand.const (Value.int IntKind.i64 1)) 3, type := 3, pos := "l03_site.go:17", after := #[{ on := 11, ground := Ground.data }, { on := 9, ground := Ground.guard }], guard := some (9, true) }) (v := undef) rfl (by kernel_rfl) (by kernel_rfl) (by kernel_rfl) (fun _ _ _ h => h) (Or.inr ⟨by rfl, rfl⟩) (by assumption) ?_
        try simp only [Act.put, List.setIfInBounds_toArray, List.set_cons_zero, List.set_cons_succ]
        refine wpAnyH_take (i := 13) (oi := { dst := some 23, op := Op.indexAddr 43 (Operand.tmp 20) (Operand.tmp 22), type := 0, pos := "l03_site.go:17", after := #[{ on := 10, ground := Ground.data }, { on := 12, ground := Ground.data }, { on := 9, ground := Ground.guard }], guard := some (9, true) }) (v := undef) rfl (by kernel_rfl) (by kernel_rfl) (by kernel_rfl) (fun _ _ _ h => h) (Or.inr ⟨by rfl, rfl⟩) (by assumption) ?_
        try simp only [Act.put, List.setIfInBounds_toArray, List.set_cons_zero, List.set_cons_succ]
        refine wpAnyH_take (i := 14) (oi := { dst := some 24, op := Op.load 9 (Operand.tmp 23), type := 9, pos := "l03_site.go:17", after := #[{ on := 13, ground := Ground.data }, { on := 9, ground := Ground.guard }], guard := some (9, true) }) (v := undef) rfl (by kernel_rfl) (by kernel_rfl) (by kernel_rfl) (fun _ _ _ h => h) (Or.inr ⟨by rfl, rfl⟩) (by assumption) ?_
        try simp only [Act.put, List.setIfInBounds_toArray, List.set_cons_zero, List.set_cons_succ]
        refine wpAnyH_take (i := 15) (oi := { dst := some 25, op := Op.move (Operand.tmp 0), type := 43, pos := "l03_site.go:17", after := #[{ on := 9, ground := Ground.guard }], guard := some (9, true) }) (v := undef) rfl (by kernel_rfl) (by kernel_rfl) (by kernel_rfl) (fun _ _ _ h => h) (Or.inr ⟨by rfl, rfl⟩) (by assumption) ?_
        try simp only [Act.put, List.setIfInBounds_toArray, List.set_cons_zero, List.set_cons_succ]
        refine wpAnyH_take (i := 16) (oi := { dst := some 26, op := Op.move (Operand.tmp 3), type := 3, pos := "l03_site.go:17", after := #[{ on := 9, ground := Ground.guard }], guard := some (9, true) }) (v := undef) rfl (by kernel_rfl) (by kernel_rfl) (by kernel_rfl) (fun _ _ _ h => h) (Or.inr ⟨by rfl, rfl⟩) (by assumption) ?_
        try simp only [Act.put, List.setIfInBounds_toArray, List.set_cons_zero, List.set_cons_succ]
        refine wpAnyH_take (i := 17) (oi := { dst := some 27, op := Op.indexAddr 43 (Operand.tmp 25) (Operand.tmp 26), type := 0, pos := "l03_site.go:17", after := #[{ on := 15, ground := Ground.data }, { on := 16, ground := Ground.data }, { on := 9, ground := Ground.guard }], guard := some (9, true) }) (v := undef) rfl (by kernel_rfl) (by kernel_rfl) (by kernel_rfl) (fun _ _ _ h => h) (Or.inr ⟨by rfl, rfl⟩) (by assumption) ?_
        try simp only [Act.put, List.setIfInBounds_toArray, List.set_cons_zero, List.set_cons_succ]
        refine wpAnyH_take (i := 18) (oi := { dst := some 28, op := Op.load 9 (Operand.tmp 27), type := 9, pos := "l03_site.go:17", after := #[{ on := 17, ground := Ground.data }, { on := 9, ground := Ground.guard }], guard := some (9, true) }) (v := undef) rfl (by kernel_rfl) (by kernel_rfl) (by kernel_rfl) (fun _ _ _ h => h) (Or.inr ⟨by rfl, rfl⟩) (by assumption) ?_
        try simp only [Act.put, List.setIfInBounds_toArray, List.set_cons_zero, List.set_cons_succ]
        refine wpAnyH_take (i := 19) (oi := { dst := some 29, op := Op.binOp BinOp.geq 9 (Operand.tmp 24) (Operand.tmp 28) 9, type := 4, pos := "l03_site.go:17", after := #[{ on := 14, ground := Ground.data }, { on := 18, ground := Ground.data }, { on := 9, ground := Ground.guard }], guard := some (9, true) }) (v := undef) rfl (by kernel_rfl) (by kernel_rfl) (by kernel_rfl) (fun _ _ _ h => h) (Or.inr ⟨by rfl, rfl⟩) (by assumption) ?_
        try simp only [Act.put, List.setIfInBounds_toArray, List.set_cons_zero, List.set_cons_succ]
        refine wpAnyH_take (i := 20) (oi := { dst := some 30, op := Op.pick (Operand.tmp 19) (Operand.tmp 29) (Operand.const (Value.bool false)), type := 4, pos := "l03_site.go:17", after := #[{ on := 9, ground := Ground.data }, { on := 19, ground := Ground.data }, { on := 6, ground := Ground.guard }], guard := some (6, false) }) (v := undef) rfl (by kernel_rfl) (by kernel_rfl) (by kernel_rfl) (fun _ _ _ h => h) (Or.inr ⟨by rfl, rfl⟩) (by assumption) ?_
        try simp only [Act.put, List.setIfInBounds_toArray, List.set_cons_zero, List.set_cons_succ]
        refine wpAnyH_take (i := 21) (oi := { dst := some 31, op := Op.pick (Operand.tmp 16) (Operand.const (Value.bool true)) (Operand.tmp 30), type := 4, pos := "l03_site.go:17", after := #[{ on := 6, ground := Ground.data }, { on := 20, ground := Ground.data }], guard := none }) (v := ?va21) rfl (by kernel_rfl) (by kernel_rfl) (by kernel_rfl) (fun _ _ _ h => h) (Or.inl ⟨by rfl, ?hya21⟩) (by assumption) ?resta21
        case hya21 =>
          intro w hSw
          (try dsimp only at hSw)
          go_simp
          try with_reducible rfl
        try simp only [Act.put, List.setIfInBounds_toArray, List.set_cons_zero, List.set_cons_succ]
        refine wpAnyH_done (by kernel_rfl) ?_ _
        go_wp2
        go_ret
        exact ⟨ret_bool HQ.out.symm, (HB.out.trans (Below.drew (Below.refl _ _))).trans (hb2.mono HB.out.size)⟩
      | true =>
        rw [hr] at KR0
        have KR : Hid (∀ W, Calls Tryd.prog 81 #[.string (f k)] W fun e w' => e = .returned (.bool true) ∧ Below W.heap.size W w') := KR0
        clear KR0
        cases k with
        | zero =>
          have HK : Hid (okR f 0 = true) := hr
          clear hr hc
          generalize f 0 = t at *
          have q0 : decide ((0 : Int) < ((0 : Nat) : Int)) = false := by decide
          go_wp2_with fail
          refine wp_region_held_drew (S := (fun w' => g < w'.heap.size ∧ w'.cell? ⟨g, 0, none⟩ = some (.string t))) (by kernel_rfl) ?_ (fun hH0 => ?_)
          · (try dsimp only)
            go_keep
          refine wpAnyH_take (i := 0) (oi := { dst := some 10, op := Op.move (Operand.tmp 0), type := 43, pos := "l03_site.go:17", after := #[], guard := none }) (v := ?vb0) rfl (by kernel_rfl) (by kernel_rfl) (by kernel_rfl) (fun _ _ _ h => h) (Or.inl ⟨by rfl, ?hyb0⟩) (by assumption) ?restb0
          case hyb0 =>
            intro w hSw
            (try dsimp only at hSw)
            go_simp
            try with_reducible rfl
          try simp only [Act.put, List.setIfInBounds_toArray, List.set_cons_zero, List.set_cons_succ]
          refine wpAnyH_take (i := 1) (oi := { dst := some 11, op := Op.move (Operand.tmp 3), type := 3, pos := "l03_site.go:17", after := #[], guard := none }) (v := ?vb1) rfl (by kernel_rfl) (by kernel_rfl) (by kernel_rfl) (fun _ _ _ h => h) (Or.inl ⟨by rfl, ?hyb1⟩) (by assumption) ?restb1
          case hyb1 =>
            intro w hSw
            (try dsimp only at hSw)
            go_simp
            try with_reducible rfl
          try simp only [Act.put, List.setIfInBounds_toArray, List.set_cons_zero, List.set_cons_succ]
          refine wpAnyH_take (i := 2) (oi := { dst := some 12, op := Op.indexAddr 43 (Operand.tmp 10) (Operand.tmp 11), type := 0, pos := "l03_site.go:17", after := #[{ on := 0, ground := Ground.data }, { on := 1, ground := Ground.data }], guard := none }) (v := ?vb2) rfl (by kernel_rfl) (by kernel_rfl) (by kernel_rfl) (fun _ _ _ h => h) (Or.inl ⟨by rfl, ?hyb2⟩) (by assumption) ?restb2
          case hyb2 =>
            intro w hSw
            (try dsimp only at hSw)
            go_simp
            try with_reducible rfl
          try simp only [Act.put, List.setIfInBounds_toArray, List.set_cons_zero, List.set_cons_succ]
          refine wpAnyH_take (i := 3) (oi := { dst := some 13, op := Op.load 9 (Operand.tmp 12), type := 9, pos := "l03_site.go:17", after := #[{ on := 2, ground := Ground.data }], guard := none }) (v := ?vb3) rfl (by kernel_rfl) (by kernel_rfl) (by kernel_rfl) (fun _ _ _ h => h) (Or.inl ⟨by rfl, ?hyb3⟩) (by assumption) ?restb3
          case hyb3 =>
            intro w hSw
            (try dsimp only at hSw)
            go_simp
            try with_reducible rfl
          try simp only [Act.put, List.setIfInBounds_toArray, List.set_cons_zero, List.set_cons_succ]
          refine wpAnyH_ready (rs := [4]) (by kernel_rfl) (by simp) ?_
          refine AllReadyH.cons (o := { dst := some 14, op := Op.call { callee := Callee.value (Operand.func 81), args := #[Operand.tmp 13], argTypes := #[9] }, type := 4, pos := "l03_site.go:17", after := #[{ on := 3, ground := Ground.data }], guard := none }) rfl (fun K hK => ?_) AllReadyH.nil
          go_simp
          (go_at_call 81; refine (KR.out _).mono ?_; rintro e w2 ⟨rfl, hb2⟩; have z2 : g < w2.heap.size := Nat.lt_of_lt_of_le hz hb2.size; have c2 : w2.cell? ⟨g, 0, none⟩ = some (.string t) := ((bcell hb2).1 _ _ hz).trans hck)
          try (go_wp2_with fail)
          refine hK.out _ _ ?_ (fun hH1 => ?_)
          · (try dsimp only)
            go_keep
          clear hK K hH0
          try simp only [Act.put, List.setIfInBounds_toArray, List.set_cons_zero, List.set_cons_succ]
          refine wpAnyH_take (i := 5) (oi := { dst := some 15, op := Op.unOp UnOp.not 4 (Operand.tmp 14), type := 4, pos := "l03_site.go:17", after := #[{ on := 4, ground := Ground.data }], guard := none }) (v := ?vb5) rfl (by kernel_rfl) (by kernel_rfl) (by kernel_rfl) (fun _ _ _ h => h) (Or.inl ⟨by rfl, ?hyb5⟩) (by assumption) ?restb5
          case hyb5 =>
            intro w hSw
            (try dsimp only at hSw)
            go_simp
            try with_reducible rfl
          try simp only [Act.put, List.setIfInBounds_toArray, List.set_cons_zero, List.set_cons_succ]
          refine wpAnyH_take (i := 6) (oi := { dst := some 16, op := Op.move (Operand.tmp 15), type := 4, pos := "l03_site.go:17", after := #[{ on := 5, ground := Ground.data }, { on := 4, ground := Ground.chain }], guard := none }) (v := ?vb6) rfl (by kernel_rfl) (by kernel_rfl) (by kernel_rfl) (fun _ _ _ h => h) (Or.inl ⟨by rfl, ?hyb6⟩) (by assumption) ?restb6
          case hyb6 =>
            intro w hSw
            (try dsimp only at hSw)
            go_simp
            try with_reducible rfl
          try simp only [Act.put, List.setIfInBounds_toArray, List.set_cons_zero, List.set_cons_succ]
          refine wpAnyH_take (i := 7) (oi := { dst := some 17, op := Op.move (Operand.tmp 3), type := 3, pos := "l03_site.go:17", after := #[{ on := 6, ground := Ground.guard }], guard := some (6, false) }) (v := ?vb7) rfl (by kernel_rfl) (by kernel_rfl) (by kernel_rfl) (fun _ _ _ h => h) (Or.inl ⟨by rfl, ?hyb7⟩) (by assumption) ?restb7
          case hyb7 =>
            intro w hSw
            (try dsimp only at hSw)
            go_simp
            try with_reducible rfl
          try simp only [Act.put, List.setIfInBounds_toArray, List.set_cons_zero, List.set_cons_succ]
          refine wpAnyH_take (i := 8) (oi := { dst := some 18, op := Op.binOp BinOp.gtr 3 (Operand.tmp 17) (Operand.const (Value.int IntKind.i64 0)) 3, type := 4, pos := "l03_site.go:17", after := #[{ on := 7, ground := Ground.data }, { on := 6, ground := Ground.guard }], guard := some (6, false) }) (v := ?vb8) rfl (by kernel_rfl) (by kernel_rfl) (by kernel_rfl) (fun _ _ _ h => h) (Or.inl ⟨by rfl, ?hyb8⟩) (by assumption) ?restb8
          case hyb8 =>
            intro w hSw
            (try dsimp only at hSw)
            go_simp
            try with_reducible rfl
          try simp only [Act.put, List.setIfInBounds_toArray, List.set_cons_zero, List.set_cons_succ]
          refine wpAnyH_take (i := 9) (oi := { dst := some 19, op := Op.move (Operand.tmp 18), type := 4, pos := "l03_site.go:17", after := #[{ on := 8, ground := Ground.data }, { on := 6, ground := Ground.chain }, { on := 6, ground := Ground.guard }], guard := some (6, false) }) (v := ?vb9) rfl (by kernel_rfl) (by kernel_rfl) (by kernel_rfl) (fun _ _ _ h => h) (Or.inl ⟨by rfl, ?hyb9⟩) (by assumption) ?restb9
          case hyb9 =>
            intro w hSw
            (try dsimp only at hSw)
            go_simp
            try with_reducible rfl
          try simp only [Act.put, List.setIfInBounds_toArray, List.set_cons_zero, List.set_cons_succ]
          refine wpAnyH_take (i := 10) (oi := { dst := some 20, op := Op.move (Operand.tmp 0), type := 43, pos := "l03_site.go:17", after := #[{ on := 9, ground := Ground.guard }], guard := some (9, true) }) (v := undef) rfl (by kernel_rfl) (by kernel_rfl) (by kernel_rfl) (fun _ _ _ h => h) (Or.inr ⟨by rfl, rfl⟩) (by assumption) ?_
          try simp only [Act.put, List.setIfInBounds_toArray, List.set_cons_zero, List.set_cons_succ]
          refine wpAnyH_take (i := 11) (oi := { dst := some 21, op := Op.move (Operand.tmp 3), type := 3, pos := "l03_site.go:17", after := #[{ on := 9, ground := Ground.guard }], guard := some (9, true) }) (v := undef) rfl (by kernel_rfl) (by kernel_rfl) (by kernel_rfl) (fun _ _ _ h => h) (Or.inr ⟨by rfl, rfl⟩) (by assumption) ?_
          try simp only [Act.put, List.setIfInBounds_toArray, List.set_cons_zero, List.set_cons_succ]
          refine wpAnyH_take (i := 12) (oi := { dst := some 22, op := Op.binOp BinOp.sub 3 (Operand.tmp 21) (Operand.const (Value.int IntKind.i64 1)) 3, type := 3, pos := "l03_site.go:17", after := #[{ on := 11, ground := Ground.data }, { on := 9, ground := Ground.guard }], guard := some (9, true) }) (v := undef) rfl (by kernel_rfl) (by kernel_rfl) (by kernel_rfl) (fun _ _ _ h => h) (Or.inr ⟨by rfl, rfl⟩) (by assumption) ?_
          try simp only [Act.put, List.setIfInBounds_toArray, List.set_cons_zero, List.set_cons_succ]
          refine wpAnyH_take (i := 13) (oi := { dst := some 23, op := Op.indexAddr 43 (Operand.tmp 20) (Operand.tmp 22), type := 0, pos := "l03_site.go:17", after := #[{ on := 10, ground := Ground.data }, { on := 12, ground := Ground.data }, { on := 9, ground := Ground.guard }], guard := some (9, true) }) (v := undef) rfl (by kernel_rfl) (by kernel_rfl) (by kernel_rfl) (fun _ _ _ h => h) (Or.inr ⟨by rfl, rfl⟩) (by assumption) ?_
          try simp only [Act.put, List.setIfInBounds_toArray, List.set_cons_zero, List.set_cons_succ]
          refine wpAnyH_take (i := 14) (oi := { dst := some 24, op := Op.load 9 (Operand.tmp 23), type := 9, pos := "l03_site.go:17", after := #[{ on := 13, ground := Ground.data }, { on := 9, ground := Ground.guard }], guard := some (9, true) }) (v := undef) rfl (by kernel_rfl) (by kernel_rfl) (by kernel_rfl) (fun _ _ _ h => h) (Or.inr ⟨by rfl, rfl⟩) (by assumption) ?_
          try simp only [Act.put, List.setIfInBounds_toArray, List.set_cons_zero, List.set_cons_succ]
          refine wpAnyH_take (i := 15) (oi := { dst := some 25, op := Op.move (Operand.tmp 0), type := 43, pos := "l03_site.go:17", after := #[{ on := 9, ground := Ground.guard }], guard := some (9, true) }) (v := undef) rfl (by kernel_rfl) (by kernel_rfl) (by kernel_rfl) (fun _ _ _ h => h) (Or.inr ⟨by rfl, rfl⟩) (by assumption) ?_
          try simp only [Act.put, List.setIfInBounds_toArray, List.set_cons_zero, List.set_cons_succ]
          refine wpAnyH_take (i := 16) (oi := { dst := some 26, op := Op.move (Operand.tmp 3), type := 3, pos := "l03_site.go:17", after := #[{ on := 9, ground := Ground.guard }], guard := some (9, true) }) (v := undef) rfl (by kernel_rfl) (by kernel_rfl) (by kernel_rfl) (fun _ _ _ h => h) (Or.inr ⟨by rfl, rfl⟩) (by assumption) ?_
          try simp only [Act.put, List.setIfInBounds_toArray, List.set_cons_zero, List.set_cons_succ]
          refine wpAnyH_take (i := 17) (oi := { dst := some 27, op := Op.indexAddr 43 (Operand.tmp 25) (Operand.tmp 26), type := 0, pos := "l03_site.go:17", after := #[{ on := 15, ground := Ground.data }, { on := 16, ground := Ground.data }, { on := 9, ground := Ground.guard }], guard := some (9, true) }) (v := undef) rfl (by kernel_rfl) (by kernel_rfl) (by kernel_rfl) (fun _ _ _ h => h) (Or.inr ⟨by rfl, rfl⟩) (by assumption) ?_
          try simp only [Act.put, List.setIfInBounds_toArray, List.set_cons_zero, List.set_cons_succ]
          refine wpAnyH_take (i := 18) (oi := { dst := some 28, op := Op.load 9 (Operand.tmp 27), type := 9, pos := "l03_site.go:17", after := #[{ on := 17, ground := Ground.data }, { on := 9, ground := Ground.guard }], guard := some (9, true) }) (v := undef) rfl (by kernel_rfl) (by kernel_rfl) (by kernel_rfl) (fun _ _ _ h => h) (Or.inr ⟨by rfl, rfl⟩) (by assumption) ?_
          try simp only [Act.put, List.setIfInBounds_toArray, List.set_cons_zero, List.set_cons_succ]
          refine wpAnyH_take (i := 19) (oi := { dst := some 29, op := Op.binOp BinOp.geq 9 (Operand.tmp 24) (Operand.tmp 28) 9, type := 4, pos := "l03_site.go:17", after := #[{ on := 14, ground := Ground.data }, { on := 18, ground := Ground.data }, { on := 9, ground := Ground.guard }], guard := some (9, true) }) (v := undef) rfl (by kernel_rfl) (by kernel_rfl) (by kernel_rfl) (fun _ _ _ h => h) (Or.inr ⟨by rfl, rfl⟩) (by assumption) ?_
          try simp only [Act.put, List.setIfInBounds_toArray, List.set_cons_zero, List.set_cons_succ]
          refine wpAnyH_take (i := 20) (oi := { dst := some 30, op := Op.pick (Operand.tmp 19) (Operand.tmp 29) (Operand.const (Value.bool false)), type := 4, pos := "l03_site.go:17", after := #[{ on := 9, ground := Ground.data }, { on := 19, ground := Ground.data }, { on := 6, ground := Ground.guard }], guard := some (6, false) }) (v := ?vb20) rfl (by kernel_rfl) (by kernel_rfl) (by kernel_rfl) (fun _ _ _ h => h) (Or.inl ⟨by rfl, ?hyb20⟩) (by assumption) ?restb20
          case hyb20 =>
            intro w hSw
            (try dsimp only at hSw)
            go_simp
            try with_reducible rfl
          try simp only [Act.put, List.setIfInBounds_toArray, List.set_cons_zero, List.set_cons_succ]
          refine wpAnyH_take (i := 21) (oi := { dst := some 31, op := Op.pick (Operand.tmp 16) (Operand.const (Value.bool true)) (Operand.tmp 30), type := 4, pos := "l03_site.go:17", after := #[{ on := 6, ground := Ground.data }, { on := 20, ground := Ground.data }], guard := none }) (v := ?vb21) rfl (by kernel_rfl) (by kernel_rfl) (by kernel_rfl) (fun _ _ _ h => h) (Or.inl ⟨by rfl, ?hyb21⟩) (by assumption) ?restb21
          case hyb21 =>
            intro w hSw
            (try dsimp only at hSw)
            go_simp
            try with_reducible rfl
          try simp only [Act.put, List.setIfInBounds_toArray, List.set_cons_zero, List.set_cons_succ]
          refine wpAnyH_done (by kernel_rfl) ?_ _
          go_wp2
          go_roundw
          case rel => exact ⟨1, by omega, by go_num, (HB.out.trans (Below.drew (Below.refl _ _))).trans (hb2.mono HB.out.size), okR_succ (k := 0) (fun i hi => absurd hi (by omega)) HK.out⟩
          case measure => simp [intOf]; omega
        | succ m =>
          have hcm : wr.cell? ⟨g, m, none⟩ = some (.string (f m)) := by rw [(bcell HB.out).1 _ _ hgw]; exact (hc m (by omega)).1
          have HE : Hid (okR f (m + 1) = Op.bytesLess (f m).toList (f (m + 1)).toList) := by show _ = _; rw [okR, hr]; rfl
          clear hr hc
          have q0 : decide ((0 : Int) < ((m : Int) + 1)) = true := by rw [decide_eq_true_iff]; omega
          have hw1 : IntKind.i64.wrap ((m : Int) + 1 - 1) = m := by
            rw [IntKind.wrap_i64]; omega
          have hw2 : IntKind.i64.wrap (m : Int) = m := by rw [IntKind.wrap_i64]; omega
          have p0 : (0 : Int) ≤ (m : Int) + 1 := by omega
          have p1 : (m : Int) + 1 < n := by omega
          have m0 : (0 : Int) ≤ m := by omega
          have m1 : (m : Int) < n := by omega
          cases hless : Op.bytesLess (f m).toList (f (m + 1)).toList with
          | true =>
            have HK : Hid (okR f (m + 1) = true) := by show _ = _; rw [HE.out, hless]
            clear HE
            generalize f (m + 1) = t at *
            generalize f m = s at *
            go_wp2_with fail
            refine wp_region_held_drew (S := (fun w' => g < w'.heap.size ∧ w'.cell? ⟨g, m + 1, none⟩ = some (.string t) ∧ w'.cell? ⟨g, m, none⟩ = some (.string s))) (by kernel_rfl) ?_ (fun hH0 => ?_)
            · (try dsimp only)
              go_keep
            refine wpAnyH_take (i := 0) (oi := { dst := some 10, op := Op.move (Operand.tmp 0), type := 43, pos := "l03_site.go:17", after := #[], guard := none }) (v := ?vc0) rfl (by kernel_rfl) (by kernel_rfl) (by kernel_rfl) (fun _ _ _ h => h) (Or.inl ⟨by rfl, ?hyc0⟩) (by assumption) ?restc0
            case hyc0 =>
              intro w hSw
              (try dsimp only at hSw)
              go_simp
              try with_reducible rfl
            try simp only [Act.put, List.setIfInBounds_toArray, List.set_cons_zero, List.set_cons_succ]
            refine wpAnyH_take (i := 1) (oi := { dst := some 11, op := Op.move (Operand.tmp 3), type := 3, pos := "l03_site.go:17", after := #[], guard := none }) (v := ?vc1) rfl (by kernel_rfl) (by kernel_rfl) (by kernel_rfl) (fun _ _ _ h => h) (Or.inl ⟨by rfl, ?hyc1⟩) (by assumption) ?restc1
            case hyc1 =>
              intro w hSw
              (try dsimp only at hSw)
              go_simp
              try with_reducible rfl
            try simp only [Act.put, List.setIfInBounds_toArray, List.set_cons_zero, List.set_cons_succ]
            refine wpAnyH_take (i := 2) (oi := { dst := some 12, op := Op.indexAddr 43 (Operand.tmp 10) (Operand.tmp 11), type := 0, pos := "l03_site.go:17", after := #[{ on := 0, ground := Ground.data }, { on := 1, ground := Ground.data }], guard := none }) (v := ?vc2) rfl (by kernel_rfl) (by kernel_rfl) (by kernel_rfl) (fun _ _ _ h => h) (Or.inl ⟨by rfl, ?hyc2⟩) (by assumption) ?restc2
            case hyc2 =>
              intro w hSw
              (try dsimp only at hSw)
              go_simp
              try with_reducible rfl
            try simp only [Act.put, List.setIfInBounds_toArray, List.set_cons_zero, List.set_cons_succ]
            refine wpAnyH_take (i := 3) (oi := { dst := some 13, op := Op.load 9 (Operand.tmp 12), type := 9, pos := "l03_site.go:17", after := #[{ on := 2, ground := Ground.data }], guard := none }) (v := ?vc3) rfl (by kernel_rfl) (by kernel_rfl) (by kernel_rfl) (fun _ _ _ h => h) (Or.inl ⟨by rfl, ?hyc3⟩) (by assumption) ?restc3
            case hyc3 =>
              intro w hSw
              (try dsimp only at hSw)
              go_simp
              try with_reducible rfl
            try simp only [Act.put, List.setIfInBounds_toArray, List.set_cons_zero, List.set_cons_succ]
            refine wpAnyH_ready (rs := [4]) (by kernel_rfl) (by simp) ?_
            refine AllReadyH.cons (o := { dst := some 14, op := Op.call { callee := Callee.value (Operand.func 81), args := #[Operand.tmp 13], argTypes := #[9] }, type := 4, pos := "l03_site.go:17", after := #[{ on := 3, ground := Ground.data }], guard := none }) rfl (fun K hK => ?_) AllReadyH.nil
            go_simp
            (go_at_call 81; refine (KR.out _).mono ?_; rintro e w2 ⟨rfl, hb2⟩; have z2 : g < w2.heap.size := Nat.lt_of_lt_of_le hz hb2.size; have c2 : w2.cell? ⟨g, m + 1, none⟩ = some (.string t) := ((bcell hb2).1 _ _ hz).trans hck; have d2 : w2.cell? ⟨g, m, none⟩ = some (.string s) := ((bcell hb2).1 _ _ hz).trans hcm)
            try (go_wp2_with fail)
            refine hK.out _ _ ?_ (fun hH1 => ?_)
            · (try dsimp only)
              go_keep
            clear hK K hH0
            try simp only [Act.put, List.setIfInBounds_toArray, List.set_cons_zero, List.set_cons_succ]
            refine wpAnyH_take (i := 5) (oi := { dst := some 15, op := Op.unOp UnOp.not 4 (Operand.tmp 14), type := 4, pos := "l03_site.go:17", after := #[{ on := 4, ground := Ground.data }], guard := none }) (v := ?vc5) rfl (by kernel_rfl) (by kernel_rfl) (by kernel_rfl) (fun _ _ _ h => h) (Or.inl ⟨by rfl, ?hyc5⟩) (by assumption) ?restc5
            case hyc5 =>
              intro w hSw
              (try dsimp only at hSw)
              go_simp
              try with_reducible rfl
            try simp only [Act.put, List.setIfInBounds_toArray, List.set_cons_zero, List.set_cons_succ]
            refine wpAnyH_take (i := 6) (oi := { dst := some 16, op := Op.move (Operand.tmp 15), type := 4, pos := "l03_site.go:17", after := #[{ on := 5, ground := Ground.data }, { on := 4, ground := Ground.chain }], guard := none }) (v := ?vc6) rfl (by kernel_rfl) (by kernel_rfl) (by kernel_rfl) (fun _ _ _ h => h) (Or.inl ⟨by rfl, ?hyc6⟩) (by assumption) ?restc6
            case hyc6 =>
              intro w hSw
              (try dsimp only at hSw)
              go_simp
              try with_reducible rfl
            try simp only [Act.put, List.setIfInBounds_toArray, List.set_cons_zero, List.set_cons_succ]
            refine wpAnyH_take (i := 7) (oi := { dst := some 17, op := Op.move (Operand.tmp 3), type := 3, pos := "l03_site.go:17", after := #[{ on := 6, ground := Ground.guard }], guard := some (6, false) }) (v := ?vc7) rfl (by kernel_rfl) (by kernel_rfl) (by kernel_rfl) (fun _ _ _ h => h) (Or.inl ⟨by rfl, ?hyc7⟩) (by assumption) ?restc7
            case hyc7 =>
              intro w hSw
              (try dsimp only at hSw)
              go_simp
              try with_reducible rfl
            try simp only [Act.put, List.setIfInBounds_toArray, List.set_cons_zero, List.set_cons_succ]
            refine wpAnyH_take (i := 8) (oi := { dst := some 18, op := Op.binOp BinOp.gtr 3 (Operand.tmp 17) (Operand.const (Value.int IntKind.i64 0)) 3, type := 4, pos := "l03_site.go:17", after := #[{ on := 7, ground := Ground.data }, { on := 6, ground := Ground.guard }], guard := some (6, false) }) (v := ?vc8) rfl (by kernel_rfl) (by kernel_rfl) (by kernel_rfl) (fun _ _ _ h => h) (Or.inl ⟨by rfl, ?hyc8⟩) (by assumption) ?restc8
            case hyc8 =>
              intro w hSw
              (try dsimp only at hSw)
              go_simp
              try with_reducible rfl
            try simp only [Act.put, List.setIfInBounds_toArray, List.set_cons_zero, List.set_cons_succ]
            refine wpAnyH_take (i := 9) (oi := { dst := some 19, op := Op.move (Operand.tmp 18), type := 4, pos := "l03_site.go:17", after := #[{ on := 8, ground := Ground.data }, { on := 6, ground := Ground.chain }, { on := 6, ground := Ground.guard }], guard := some (6, false) }) (v := ?vc9) rfl (by kernel_rfl) (by kernel_rfl) (by kernel_rfl) (fun _ _ _ h => h) (Or.inl ⟨by rfl, ?hyc9⟩) (by assumption) ?restc9
            case hyc9 =>
              intro w hSw
              (try dsimp only at hSw)
              go_simp
              try with_reducible rfl
            try simp only [Act.put, List.setIfInBounds_toArray, List.set_cons_zero, List.set_cons_succ]
            refine wpAnyH_take (i := 10) (oi := { dst := some 20, op := Op.move (Operand.tmp 0), type := 43, pos := "l03_site.go:17", after := #[{ on := 9, ground := Ground.guard }], guard := some (9, true) }) (v := ?vc10) rfl (by kernel_rfl) (by kernel_rfl) (by kernel_rfl) (fun _ _ _ h => h) (Or.inl ⟨by rfl, ?hyc10⟩) (by assumption) ?restc10
            case hyc10 =>
              intro w hSw
              (try dsimp only at hSw)
              go_simp
              try with_reducible rfl
            try simp only [Act.put, List.setIfInBounds_toArray, List.set_cons_zero, List.set_cons_succ]
            refine wpAnyH_take (i := 11) (oi := { dst := some 21, op := Op.move (Operand.tmp 3), type := 3, pos := "l03_site.go:17", after := #[{ on := 9, ground := Ground.guard }], guard := some (9, true) }) (v := ?vc11) rfl (by kernel_rfl) (by kernel_rfl) (by kernel_rfl) (fun _ _ _ h => h) (Or.inl ⟨by rfl, ?hyc11⟩) (by assumption) ?restc11
            case hyc11 =>
              intro w hSw
              (try dsimp only at hSw)
              go_simp
              try with_reducible rfl
            try simp only [Act.put, List.setIfInBounds_toArray, List.set_cons_zero, List.set_cons_succ]
            refine wpAnyH_take (i := 12) (oi := { dst := some 22, op := Op.binOp BinOp.sub 3 (Operand.tmp 21) (Operand.const (Value.int IntKind.i64 1)) 3, type := 3, pos := "l03_site.go:17", after := #[{ on := 11, ground := Ground.data }, { on := 9, ground := Ground.guard }], guard := some (9, true) }) (v := ?vc12) rfl (by kernel_rfl) (by kernel_rfl) (by kernel_rfl) (fun _ _ _ h => h) (Or.inl ⟨by rfl, ?hyc12⟩) (by assumption) ?restc12
            case hyc12 =>
              intro w hSw
              (try dsimp only at hSw)
              go_simp
              try with_reducible rfl
            try simp only [Act.put, List.setIfInBounds_toArray, List.set_cons_zero, List.set_cons_succ]
            refine wpAnyH_take (i := 13) (oi := { dst := some 23, op := Op.indexAddr 43 (Operand.tmp 20) (Operand.tmp 22), type := 0, pos := "l03_site.go:17", after := #[{ on := 10, ground := Ground.data }, { on := 12, ground := Ground.data }, { on := 9, ground := Ground.guard }], guard := some (9, true) }) (v := ?vc13) rfl (by kernel_rfl) (by kernel_rfl) (by kernel_rfl) (fun _ _ _ h => h) (Or.inl ⟨by rfl, ?hyc13⟩) (by assumption) ?restc13
            case hyc13 =>
              intro w hSw
              (try dsimp only at hSw)
              go_simp
              try with_reducible rfl
            try simp only [Act.put, List.setIfInBounds_toArray, List.set_cons_zero, List.set_cons_succ]
            refine wpAnyH_take (i := 14) (oi := { dst := some 24, op := Op.load 9 (Operand.tmp 23), type := 9, pos := "l03_site.go:17", after := #[{ on := 13, ground := Ground.data }, { on := 9, ground := Ground.guard }], guard := some (9, true) }) (v := ?vc14) rfl (by kernel_rfl) (by kernel_rfl) (by kernel_rfl) (fun _ _ _ h => h) (Or.inl ⟨by rfl, ?hyc14⟩) (by assumption) ?restc14
            case hyc14 =>
              intro w hSw
              (try dsimp only at hSw)
              go_simp
              try with_reducible rfl
            try simp only [Act.put, List.setIfInBounds_toArray, List.set_cons_zero, List.set_cons_succ]
            refine wpAnyH_take (i := 15) (oi := { dst := some 25, op := Op.move (Operand.tmp 0), type := 43, pos := "l03_site.go:17", after := #[{ on := 9, ground := Ground.guard }], guard := some (9, true) }) (v := ?vc15) rfl (by kernel_rfl) (by kernel_rfl) (by kernel_rfl) (fun _ _ _ h => h) (Or.inl ⟨by rfl, ?hyc15⟩) (by assumption) ?restc15
            case hyc15 =>
              intro w hSw
              (try dsimp only at hSw)
              go_simp
              try with_reducible rfl
            try simp only [Act.put, List.setIfInBounds_toArray, List.set_cons_zero, List.set_cons_succ]
            refine wpAnyH_take (i := 16) (oi := { dst := some 26, op := Op.move (Operand.tmp 3), type := 3, pos := "l03_site.go:17", after := #[{ on := 9, ground := Ground.guard }], guard := some (9, true) }) (v := ?vc16) rfl (by kernel_rfl) (by kernel_rfl) (by kernel_rfl) (fun _ _ _ h => h) (Or.inl ⟨by rfl, ?hyc16⟩) (by assumption) ?restc16
            case hyc16 =>
              intro w hSw
              (try dsimp only at hSw)
              go_simp
              try with_reducible rfl
            try simp only [Act.put, List.setIfInBounds_toArray, List.set_cons_zero, List.set_cons_succ]
            refine wpAnyH_take (i := 17) (oi := { dst := some 27, op := Op.indexAddr 43 (Operand.tmp 25) (Operand.tmp 26), type := 0, pos := "l03_site.go:17", after := #[{ on := 15, ground := Ground.data }, { on := 16, ground := Ground.data }, { on := 9, ground := Ground.guard }], guard := some (9, true) }) (v := ?vc17) rfl (by kernel_rfl) (by kernel_rfl) (by kernel_rfl) (fun _ _ _ h => h) (Or.inl ⟨by rfl, ?hyc17⟩) (by assumption) ?restc17
            case hyc17 =>
              intro w hSw
              (try dsimp only at hSw)
              go_simp
              try with_reducible rfl
            try simp only [Act.put, List.setIfInBounds_toArray, List.set_cons_zero, List.set_cons_succ]
            refine wpAnyH_take (i := 18) (oi := { dst := some 28, op := Op.load 9 (Operand.tmp 27), type := 9, pos := "l03_site.go:17", after := #[{ on := 17, ground := Ground.data }, { on := 9, ground := Ground.guard }], guard := some (9, true) }) (v := ?vc18) rfl (by kernel_rfl) (by kernel_rfl) (by kernel_rfl) (fun _ _ _ h => h) (Or.inl ⟨by rfl, ?hyc18⟩) (by assumption) ?restc18
            case hyc18 =>
              intro w hSw
              (try dsimp only at hSw)
              go_simp
              try with_reducible rfl
            try simp only [Act.put, List.setIfInBounds_toArray, List.set_cons_zero, List.set_cons_succ]
            refine wpAnyH_take (i := 19) (oi := { dst := some 29, op := Op.binOp BinOp.geq 9 (Operand.tmp 24) (Operand.tmp 28) 9, type := 4, pos := "l03_site.go:17", after := #[{ on := 14, ground := Ground.data }, { on := 18, ground := Ground.data }, { on := 9, ground := Ground.guard }], guard := some (9, true) }) (v := ?vc19) rfl (by kernel_rfl) (by kernel_rfl) (by kernel_rfl) (fun _ _ _ h => h) (Or.inl ⟨by rfl, ?hyc19⟩) (by assumption) ?restc19
            case hyc19 =>
              intro w hSw
              (try dsimp only at hSw)
              go_simp
              try with_reducible rfl
            try simp only [Act.put, List.setIfInBounds_toArray, List.set_cons_zero, List.set_cons_succ]
            refine wpAnyH_take (i := 20) (oi := { dst := some 30, op := Op.pick (Operand.tmp 19) (Operand.tmp 29) (Operand.const (Value.bool false)), type := 4, pos := "l03_site.go:17", after := #[{ on := 9, ground := Ground.data }, { on := 19, ground := Ground.data }, { on := 6, ground := Ground.guard }], guard := some (6, false) }) (v := ?vc20) rfl (by kernel_rfl) (by kernel_rfl) (by kernel_rfl) (fun _ _ _ h => h) (Or.inl ⟨by rfl, ?hyc20⟩) (by assumption) ?restc20
            case hyc20 =>
              intro w hSw
              (try dsimp only at hSw)
              go_simp
              try with_reducible rfl
            try simp only [Act.put, List.setIfInBounds_toArray, List.set_cons_zero, List.set_cons_succ]
            refine wpAnyH_take (i := 21) (oi := { dst := some 31, op := Op.pick (Operand.tmp 16) (Operand.const (Value.bool true)) (Operand.tmp 30), type := 4, pos := "l03_site.go:17", after := #[{ on := 6, ground := Ground.data }, { on := 20, ground := Ground.data }], guard := none }) (v := ?vc21) rfl (by kernel_rfl) (by kernel_rfl) (by kernel_rfl) (fun _ _ _ h => h) (Or.inl ⟨by rfl, ?hyc21⟩) (by assumption) ?restc21
            case hyc21 =>
              intro w hSw
              (try dsimp only at hSw)
              go_simp
              try with_reducible rfl
            try simp only [Act.put, List.setIfInBounds_toArray, List.set_cons_zero, List.set_cons_succ]
            refine wpAnyH_done (by kernel_rfl) ?_ _
            go_wp2
            go_roundw
            case rel => exact ⟨m + 2, by omega, by go_num, (HB.out.trans (Below.drew (Below.refl _ _))).trans (hb2.mono HB.out.size), okR_succ HR.out HK.out⟩
            case measure => simp [intOf]; omega
          | false =>
            have HQ : Hid (R = false) := HA.out.1 (m + 1) hlt (by rw [HE.out, hless])
            clear HE
            generalize f (m + 1) = t at *
            generalize f m = s at *
            go_wp2_with fail
            refine wp_region_held_drew (S := (fun w' => g < w'.heap.size ∧ w'.cell? ⟨g, m + 1, none⟩ = some (.string t) ∧ w'.cell? ⟨g, m, none⟩ = some (.string s))) (by kernel_rfl) ?_ (fun hH0 => ?_)
            · (try dsimp only)
              go_keep
            refine wpAnyH_take (i := 0) (oi := { dst := some 10, op := Op.move (Operand.tmp 0), type := 43, pos := "l03_site.go:17", after := #[], guard := none }) (v := ?vd0) rfl (by kernel_rfl) (by kernel_rfl) (by kernel_rfl) (fun _ _ _ h => h) (Or.inl ⟨by rfl, ?hyd0⟩) (by assumption) ?restd0
            case hyd0 =>
              intro w hSw
              (try dsimp only at hSw)
              go_simp
              try with_reducible rfl
            try simp only [Act.put, List.setIfInBounds_toArray, List.set_cons_zero, List.set_cons_succ]
            refine wpAnyH_take (i := 1) (oi := { dst := some 11, op := Op.move (Operand.tmp 3), type := 3, pos := "l03_site.go:17", after := #[], guard := none }) (v := ?vd1) rfl (by kernel_rfl) (by kernel_rfl) (by kernel_rfl) (fun _ _ _ h => h) (Or.inl ⟨by rfl, ?hyd1⟩) (by assumption) ?restd1
            case hyd1 =>
              intro w hSw
              (try dsimp only at hSw)
              go_simp
              try with_reducible rfl
            try simp only [Act.put, List.setIfInBounds_toArray, List.set_cons_zero, List.set_cons_succ]
            refine wpAnyH_take (i := 2) (oi := { dst := some 12, op := Op.indexAddr 43 (Operand.tmp 10) (Operand.tmp 11), type := 0, pos := "l03_site.go:17", after := #[{ on := 0, ground := Ground.data }, { on := 1, ground := Ground.data }], guard := none }) (v := ?vd2) rfl (by kernel_rfl) (by kernel_rfl) (by kernel_rfl) (fun _ _ _ h => h) (Or.inl ⟨by rfl, ?hyd2⟩) (by assumption) ?restd2
            case hyd2 =>
              intro w hSw
              (try dsimp only at hSw)
              go_simp
              try with_reducible rfl
            try simp only [Act.put, List.setIfInBounds_toArray, List.set_cons_zero, List.set_cons_succ]
            refine wpAnyH_take (i := 3) (oi := { dst := some 13, op := Op.load 9 (Operand.tmp 12), type := 9, pos := "l03_site.go:17", after := #[{ on := 2, ground := Ground.data }], guard := none }) (v := ?vd3) rfl (by kernel_rfl) (by kernel_rfl) (by kernel_rfl) (fun _ _ _ h => h) (Or.inl ⟨by rfl, ?hyd3⟩) (by assumption) ?restd3
            case hyd3 =>
              intro w hSw
              (try dsimp only at hSw)
              go_simp
              try with_reducible rfl
            try simp only [Act.put, List.setIfInBounds_toArray, List.set_cons_zero, List.set_cons_succ]
            refine wpAnyH_ready (rs := [4]) (by kernel_rfl) (by simp) ?_
            refine AllReadyH.cons (o := { dst := some 14, op := Op.call { callee := Callee.value (Operand.func 81), args := #[Operand.tmp 13], argTypes := #[9] }, type := 4, pos := "l03_site.go:17", after := #[{ on := 3, ground := Ground.data }], guard := none }) rfl (fun K hK => ?_) AllReadyH.nil
            go_simp
            (go_at_call 81; refine (KR.out _).mono ?_; rintro e w2 ⟨rfl, hb2⟩; have z2 : g < w2.heap.size := Nat.lt_of_lt_of_le hz hb2.size; have c2 : w2.cell? ⟨g, m + 1, none⟩ = some (.string t) := ((bcell hb2).1 _ _ hz).trans hck; have d2 : w2.cell? ⟨g, m, none⟩ = some (.string s) := ((bcell hb2).1 _ _ hz).trans hcm)
            try (go_wp2_with fail)
            refine hK.out _ _ ?_ (fun hH1 => ?_)
            · (try dsimp only)
              go_keep
            clear hK K hH0
            try simp only [Act.put, List.setIfInBounds_toArray, List.set_cons_zero, List.set_cons_succ]
            refine wpAnyH_take (i := 5) (oi := { dst := some 15, op := Op.unOp UnOp.not 4 (Operand.tmp 14), type := 4, pos := "l03_site.go:17", after := #[{ on := 4, ground := Ground.data }], guard := none }) (v := ?vd5) rfl (by kernel_rfl) (by kernel_rfl) (by kernel_rfl) (fun _ _ _ h => h) (Or.inl ⟨by rfl, ?hyd5⟩) (by assumption) ?restd5
            case hyd5 =>
              intro w hSw
              (try dsimp only at hSw)
              go_simp
              try with_reducible rfl
            try simp only [Act.put, List.setIfInBounds_toArray, List.set_cons_zero, List.set_cons_succ]
            refine wpAnyH_take (i := 6) (oi := { dst := some 16, op := Op.move (Operand.tmp 15), type := 4, pos := "l03_site.go:17", after := #[{ on := 5, ground := Ground.data }, { on := 4, ground := Ground.chain }], guard := none }) (v := ?vd6) rfl (by kernel_rfl) (by kernel_rfl) (by kernel_rfl) (fun _ _ _ h => h) (Or.inl ⟨by rfl, ?hyd6⟩) (by assumption) ?restd6
            case hyd6 =>
              intro w hSw
              (try dsimp only at hSw)
              go_simp
              try with_reducible rfl
            try simp only [Act.put, List.setIfInBounds_toArray, List.set_cons_zero, List.set_cons_succ]
            refine wpAnyH_take (i := 7) (oi := { dst := some 17, op := Op.move (Operand.tmp 3), type := 3, pos := "l03_site.go:17", after := #[{ on := 6, ground := Ground.guard }], guard := some (6, false) }) (v := ?vd7) rfl (by kernel_rfl) (by kernel_rfl) (by kernel_rfl) (fun _ _ _ h => h) (Or.inl ⟨by rfl, ?hyd7⟩) (by assumption) ?restd7
            case hyd7 =>
              intro w hSw
              (try dsimp only at hSw)
              go_simp
              try with_reducible rfl
            try simp only [Act.put, List.setIfInBounds_toArray, List.set_cons_zero, List.set_cons_succ]
            refine wpAnyH_take (i := 8) (oi := { dst := some 18, op := Op.binOp BinOp.gtr 3 (Operand.tmp 17) (Operand.const (Value.int IntKind.i64 0)) 3, type := 4, pos := "l03_site.go:17", after := #[{ on := 7, ground := Ground.data }, { on := 6, ground := Ground.guard }], guard := some (6, false) }) (v := ?vd8) rfl (by kernel_rfl) (by kernel_rfl) (by kernel_rfl) (fun _ _ _ h => h) (Or.inl ⟨by rfl, ?hyd8⟩) (by assumption) ?restd8
            case hyd8 =>
              intro w hSw
              (try dsimp only at hSw)
              go_simp
              try with_reducible rfl
            try simp only [Act.put, List.setIfInBounds_toArray, List.set_cons_zero, List.set_cons_succ]
            refine wpAnyH_take (i := 9) (oi := { dst := some 19, op := Op.move (Operand.tmp 18), type := 4, pos := "l03_site.go:17", after := #[{ on := 8, ground := Ground.data }, { on := 6, ground := Ground.chain }, { on := 6, ground := Ground.guard }], guard := some (6, false) }) (v := ?vd9) rfl (by kernel_rfl) (by kernel_rfl) (by kernel_rfl) (fun _ _ _ h => h) (Or.inl ⟨by rfl, ?hyd9⟩) (by assumption) ?restd9
            case hyd9 =>
              intro w hSw
              (try dsimp only at hSw)
              go_simp
              try with_reducible rfl
            try simp only [Act.put, List.setIfInBounds_toArray, List.set_cons_zero, List.set_cons_succ]
            refine wpAnyH_take (i := 10) (oi := { dst := some 20, op := Op.move (Operand.tmp 0), type := 43, pos := "l03_site.go:17", after := #[{ on := 9, ground := Ground.guard }], guard := some (9, true) }) (v := ?vd10) rfl (by kernel_rfl) (by kernel_rfl) (by kernel_rfl) (fun _ _ _ h => h) (Or.inl ⟨by rfl, ?hyd10⟩) (by assumption) ?restd10
            case hyd10 =>
              intro w hSw
              (try dsimp only at hSw)
              go_simp
              try with_reducible rfl
            try simp only [Act.put, List.setIfInBounds_toArray, List.set_cons_zero, List.set_cons_succ]
            refine wpAnyH_take (i := 11) (oi := { dst := some 21, op := Op.move (Operand.tmp 3), type := 3, pos := "l03_site.go:17", after := #[{ on := 9, ground := Ground.guard }], guard := some (9, true) }) (v := ?vd11) rfl (by kernel_rfl) (by kernel_rfl) (by kernel_rfl) (fun _ _ _ h => h) (Or.inl ⟨by rfl, ?hyd11⟩) (by assumption) ?restd11
            case hyd11 =>
              intro w hSw
              (try dsimp only at hSw)
              go_simp
              try with_reducible rfl
            try simp only [Act.put, List.setIfInBounds_toArray, List.set_cons_zero, List.set_cons_succ]
            refine wpAnyH_take (i := 12) (oi := { dst := some 22, op := Op.binOp BinOp.sub 3 (Operand.tmp 21) (Operand.const (Value.int IntKind.i64 1)) 3, type := 3, pos := "l03_site.go:17", after := #[{ on := 11, ground := Ground.data }, { on := 9, ground := Ground.guard }], guard := some (9, true) }) (v := ?vd12) rfl (by kernel_rfl) (by kernel_rfl) (by kernel_rfl) (fun _ _ _ h => h) (Or.inl ⟨by rfl, ?hyd12⟩) (by assumption) ?restd12
            case hyd12 =>
              intro w hSw
              (try dsimp only at hSw)
              go_simp
              try with_reducible rfl
            try simp only [Act.put, List.setIfInBounds_toArray, List.set_cons_zero, List.set_cons_succ]
            refine wpAnyH_take (i := 13) (oi := { dst := some 23, op := Op.indexAddr 43 (Operand.tmp 20) (Operand.tmp 22), type := 0, pos := "l03_site.go:17", after := #[{ on := 10, ground := Ground.data }, { on := 12, ground := Ground.data }, { on := 9, ground := Ground.guard }], guard := some (9, true) }) (v := ?vd13) rfl (by kernel_rfl) (by kernel_rfl) (by kernel_rfl) (fun _ _ _ h => h) (Or.inl ⟨by rfl, ?hyd13⟩) (by assumption) ?restd13
            case hyd13 =>
              intro w hSw
              (try dsimp only at hSw)
              go_simp
              try with_reducible rfl
            try simp only [Act.put, List.setIfInBounds_toArray, List.set_cons_zero, List.set_cons_succ]
            refine wpAnyH_take (i := 14) (oi := { dst := some 24, op := Op.load 9 (Operand.tmp 23), type := 9, pos := "l03_site.go:17", after := #[{ on := 13, ground := Ground.data }, { on := 9, ground := Ground.guard }], guard := some (9, true) }) (v := ?vd14) rfl (by kernel_rfl) (by kernel_rfl) (by kernel_rfl) (fun _ _ _ h => h) (Or.inl ⟨by rfl, ?hyd14⟩) (by assumption) ?restd14
            case hyd14 =>
              intro w hSw
              (try dsimp only at hSw)
              go_simp
              try with_reducible rfl
            try simp only [Act.put, List.setIfInBounds_toArray, List.set_cons_zero, List.set_cons_succ]
            refine wpAnyH_take (i := 15) (oi := { dst := some 25, op := Op.move (Operand.tmp 0), type := 43, pos := "l03_site.go:17", after := #[{ on := 9, ground := Ground.guard }], guard := some (9, true) }) (v := ?vd15) rfl (by kernel_rfl) (by kernel_rfl) (by kernel_rfl) (fun _ _ _ h => h) (Or.inl ⟨by rfl, ?hyd15⟩) (by assumption) ?restd15
            case hyd15 =>
              intro w hSw
              (try dsimp only at hSw)
              go_simp
              try with_reducible rfl
            try simp only [Act.put, List.setIfInBounds_toArray, List.set_cons_zero, List.set_cons_succ]
            refine wpAnyH_take (i := 16) (oi := { dst := some 26, op := Op.move (Operand.tmp 3), type := 3, pos := "l03_site.go:17", after := #[{ on := 9, ground := Ground.guard }], guard := some (9, true) }) (v := ?vd16) rfl (by kernel_rfl) (by kernel_rfl) (by kernel_rfl) (fun _ _ _ h => h) (Or.inl ⟨by rfl, ?hyd16⟩) (by assumption) ?restd16
            case hyd16 =>
              intro w hSw
              (try dsimp only at hSw)
              go_simp
              try with_reducible rfl
            try simp only [Act.put, List.setIfInBounds_toArray, List.set_cons_zero, List.set_cons_succ]
            refine wpAnyH_take (i := 17) (oi := { dst := some 27, op := Op.indexAddr 43 (Operand.tmp 25) (Operand.tmp 26), type := 0, pos := "l03_site.go:17", after := #[{ on := 15, ground := Ground.data }, { on := 16, ground := Ground.data }, { on := 9, ground := Ground.guard }], guard := some (9, true) }) (v := ?vd17) rfl (by kernel_rfl) (by kernel_rfl) (by kernel_rfl) (fun _ _ _ h => h) (Or.inl ⟨by rfl, ?hyd17⟩) (by assumption) ?restd17
            case hyd17 =>
              intro w hSw
              (try dsimp only at hSw)
              go_simp
              try with_reducible rfl
            try simp only [Act.put, List.setIfInBounds_toArray, List.set_cons_zero, List.set_cons_succ]
            refine wpAnyH_take (i := 18) (oi := { dst := some 28, op := Op.load 9 (Operand.tmp 27), type := 9, pos := "l03_site.go:17", after := #[{ on := 17, ground := Ground.data }, { on := 9, ground := Ground.guard }], guard := some (9, true) }) (v := ?vd18) rfl (by kernel_rfl) (by kernel_rfl) (by kernel_rfl) (fun _ _ _ h => h) (Or.inl ⟨by rfl, ?hyd18⟩) (by assumption) ?restd18
            case hyd18 =>
              intro w hSw
              (try dsimp only at hSw)
              go_simp
              try with_reducible rfl
            try simp only [Act.put, List.setIfInBounds_toArray, List.set_cons_zero, List.set_cons_succ]
            refine wpAnyH_take (i := 19) (oi := { dst := some 29, op := Op.binOp BinOp.geq 9 (Operand.tmp 24) (Operand.tmp 28) 9, type := 4, pos := "l03_site.go:17", after := #[{ on := 14, ground := Ground.data }, { on := 18, ground := Ground.data }, { on := 9, ground := Ground.guard }], guard := some (9, true) }) (v := ?vd19) rfl (by kernel_rfl) (by kernel_rfl) (by kernel_rfl) (fun _ _ _ h => h) (Or.inl ⟨by rfl, ?hyd19⟩) (by assumption) ?restd19
            case hyd19 =>
              intro w hSw
              (try dsimp only at hSw)
              go_simp
              try with_reducible rfl
            try simp only [Act.put, List.setIfInBounds_toArray, List.set_cons_zero, List.set_cons_succ]
            refine wpAnyH_take (i := 20) (oi := { dst := some 30, op := Op.pick (Operand.tmp 19) (Operand.tmp 29) (Operand.const (Value.bool false)), type := 4, pos := "l03_site.go:17", after := #[{ on := 9, ground := Ground.data }, { on := 19, ground := Ground.data }, { on := 6, ground := Ground.guard }], guard := some (6, false) }) (v := ?vd20) rfl (by kernel_rfl) (by kernel_rfl) (by kernel_rfl) (fun _ _ _ h => h) (Or.inl ⟨by rfl, ?hyd20⟩) (by assumption) ?restd20
            case hyd20 =>
              intro w hSw
              (try dsimp only at hSw)
              go_simp
              try with_reducible rfl
            try simp only [Act.put, List.setIfInBounds_toArray, List.set_cons_zero, List.set_cons_succ]
            refine wpAnyH_take (i := 21) (oi := { dst := some 31, op := Op.pick (Operand.tmp 16) (Operand.const (Value.bool true)) (Operand.tmp 30), type := 4, pos := "l03_site.go:17", after := #[{ on := 6, ground := Ground.data }, { on := 20, ground := Ground.data }], guard := none }) (v := ?vd21) rfl (by kernel_rfl) (by kernel_rfl) (by kernel_rfl) (fun _ _ _ h => h) (Or.inl ⟨by rfl, ?hyd21⟩) (by assumption) ?restd21
            case hyd21 =>
              intro w hSw
              (try dsimp only at hSw)
              go_simp
              try with_reducible rfl
            try simp only [Act.put, List.setIfInBounds_toArray, List.set_cons_zero, List.set_cons_succ]
            refine wpAnyH_done (by kernel_rfl) ?_ _
            go_wp2
            go_ret
            exact ⟨ret_bool HQ.out.symm, (HB.out.trans (Below.drew (Below.refl _ _))).trans (hb2.mono HB.out.size)⟩
    · have HQ : Hid (R = decide (n ≤ 20)) := HA.out.2 (fun i hi => HR.out i (by omega))
      go_wp2
      go_ret
      exact ⟨ret_bool (by rw [HQ.out]; congr 1; exact propext ⟨fun h => by omega, fun h => by omega⟩), HB.out⟩
end Go.Proofs.YtmlacbjlafdenaaDoor

/- The walk of the program's RulesRight. -/
namespace Go.Proofs.YtmlacbjlafdenaaDoor
open Go.RowKit

theorem rulesB_many {n : Nat} {f : Nat → ByteArray} (h : 20 < n) : rulesB n f = false := by unfold rulesB; rw [decide_eq_false (show ¬ n ≤ 20 by omega), Bool.and_false]

set_option maxRecDepth 10000 in
set_option maxHeartbeats 1000000 in
theorem rulesRight_any (v : Value) (n B : Nat) (f : Nat → ByteArray) (w : World) (hG : MaxI w) (hs : SliceS w B v n f) (hn : n ≤ 1048576) (hf : ∀ i, i < n → (f i).size ≤ 1048576) :
    Calls Tryd.prog 79 #[v] w fun e w' => e = .returned (.bool (rulesB n f)) ∧ Below w.heap.size w w' := by
  obtain ⟨p, cap, rfl, hg⟩ := hs
  by_cases h20 : 20 < n
  · have HR : Hid (rulesB n f = false) := rulesB_many h20
    go_enter Tryd.func79, Tryd.ntmps79
    go_wp2
    go_ret
    exact ⟨ret_bool HR.out.symm, Below.refl _ _⟩
  have HG : Hid (0 < n → ∃ g, p = some ⟨g, 0, none⟩ ∧ B ≤ g ∧ g < w.heap.size ∧ ∀ j, j < n → w.cell? ⟨g, j, none⟩ = some (.string (f j)) ∧ w.frozen? ⟨g, j, none⟩ = false) := hg
  have HM : Hid (MaxI w) := hG
  have HF : Hid (∀ i, i < n → (f i).size ≤ 1048576) := hf
  have HA : Hid ((∀ k, k < n → okR f k = false → rulesB n f = false) ∧ ((∀ i, i < n → okR f i = true) → rulesB n f = true)) := ⟨fun k h hk => rulesB_at k h hk, fun h => by rw [rulesB_all h, decide_eq_true_iff]; omega⟩
  clear hg hf hG
  have q20 : decide ((20 : Int) < (n : Int)) = false := by rw [decide_eq_false_iff_not]; omega
  have hge : ∀ (t : TypeId) (a b : ByteArray), binOp .geq t (.string a) (.string b) = pure (.bool (!(Op.bytesLess a.toList b.toList))) := geq_text
  generalize rulesB n f = R at *
  go_enter Tryd.func79, Tryd.ntmps79
  go_wp2
  go_loopw [10] (fun i wr => ∃ k : Nat, k ≤ n ∧ i = .int .i64 k ∧ Hid (Below w.heap.size w wr) ∧ Hid (∀ j, j < k → okR f j = true)) (fun i _ => n - (intOf i).toNat)
  case atStart => exact ⟨0, Nat.zero_le _, rfl, Below.refl _ _, fun j hj => absurd hj (by omega)⟩
  case round =>
    obtain ⟨k, hk, rfl, HB, HR⟩ := hrel
    by_cases hlt : k < n
    · obtain ⟨g, rfl, -, hgw, hc⟩ := HG.out (by omega)
      have hz : g < wr.heap.size := Nat.lt_of_lt_of_le hgw HB.out.size
      have hck : wr.cell? ⟨g, k, none⟩ = some (.string (f k)) := by rw [(bcell HB.out).1 _ _ hgw]; exact (hc k hlt).1
      have KR0 := ruleRight_any (f k) wr (HM.out.on HB.out) (HF.out k hlt)
      have k0 : (0 : Int) ≤ k := by omega
      have k1 : (k : Int) < n := by omega
      cases hr : ruleB (f k) with
      | false =>
        have HQ : Hid (R = false) := HA.out.1 k hlt (by cases k with | zero => exact hr | succ m => rw [okR, hr]; rfl)
        rw [hr] at KR0
        have KR : Hid (Calls Tryd.prog 99 #[.string (f k)] wr fun e w' => e = .returned (.bool false) ∧ Below wr.heap.size wr w') := KR0
        clear KR0 hr hc
        generalize f k = t at *
        go_wp2_with (go_at_call 99; refine KR.out.mono ?_; rintro e w1 ⟨rfl, hb1⟩)
        go_ret
        exact ⟨ret_bool HQ.out.symm, HB.out.trans (hb1.mono HB.out.size)⟩
      | true =>
        rw [hr] at KR0
        have KR : Hid (Calls Tryd.prog 99 #[.string (f k)] wr fun e w' => e = .returned (.bool true) ∧ Below wr.heap.size wr w') := KR0
        clear KR0
        cases k with
        | zero =>
          have HO : Hid (okR f 0 = true) := hr
          clear hr hc
          generalize f 0 = t at *
          go_wp2_with (go_at_call 99; refine KR.out.mono ?_; rintro e w1 ⟨rfl, hb1⟩)
          go_roundw
          case rel => exact ⟨1, by omega, by go_num, HB.out.trans (hb1.mono HB.out.size), okR_succ HR.out HO.out⟩
          case measure => simp [intOf]; omega
        | succ m =>
          have hcm : wr.cell? ⟨g, m, none⟩ = some (.string (f m)) := by rw [(bcell HB.out).1 _ _ hgw]; exact (hc m (by omega)).1
          have HCM : Hid (∀ w1, Below wr.heap.size wr w1 → w1.cell? ⟨g, m, none⟩ = some (.string (f m))) := fun w1 hb1 => by rw [(bcell hb1).1 _ _ hz]; exact hcm
          have hw : ((m + 1 : Nat) : Int) - 1 = (m : Int) := by omega
          cases hl : Op.bytesLess (f m).toList (f (m + 1)).toList with
          | true =>
            have HO : Hid (okR f (m + 1) = true) := by show _ = _; rw [okR, hr, hl]; rfl
            clear hr hc hcm
            generalize f m = t0 at *
            generalize f (m + 1) = t at *
            go_wp2_with (go_at_call 99; refine KR.out.mono ?_; rintro e w1 ⟨rfl, hb1⟩; have hcm1 := HCM.out w1 hb1)
            go_roundw
            case rel => exact ⟨m + 2, by omega, by go_num, HB.out.trans (hb1.mono HB.out.size), okR_succ HR.out HO.out⟩
            case measure => simp [intOf]; omega
          | false =>
            have HQ : Hid (R = false) := HA.out.1 (m + 1) hlt (by rw [okR, hr, hl]; rfl)
            clear hr hc hcm
            generalize f m = t0 at *
            generalize f (m + 1) = t at *
            go_wp2_with (go_at_call 99; refine KR.out.mono ?_; rintro e w1 ⟨rfl, hb1⟩; have hcm1 := HCM.out w1 hb1)
            go_ret
            exact ⟨ret_bool HQ.out.symm, HB.out.trans (hb1.mono HB.out.size)⟩
    · go_wp2
      go_ret
      exact ⟨ret_bool (HA.out.2 (fun i hi => HR.out i (by omega))).symm, HB.out⟩
end Go.Proofs.YtmlacbjlafdenaaDoor

/- What the specification puts together label by label is what the library joins. -/
namespace Go.Proofs.YtmlacbjlafdenaaDoor

theorem join_snoc (y sep : List UInt8) : ∀ xs : List (List UInt8), Lib.join (xs ++ [y]) sep = if xs = [] then y else Lib.join xs sep ++ sep ++ y
  | [] => by simp [Lib.join_one]
  | x :: xs => by
    rw [if_neg (by simp), List.cons_append, Lib.join_cons, Lib.join_cons]
    simp [Lib.joinTail]
/-- n texts from place d on -/
def partL (f : Nat → ByteArray) (d n : Nat) : List ByteArray := (List.range n).map (fun i => f (d + i))
theorem partL_len (f : Nat → ByteArray) (d n : Nat) : (partL f d n).length = n := by simp [partL]
theorem partL_get {f : Nat → ByteArray} {d n j : Nat} {x : ByteArray} (h : (partL f d n)[j]? = some x) : j < n ∧ x = f (d + j) := by
  have hj : j < n := by
    have := (List.getElem?_eq_some_iff.1 h).1
    rwa [partL_len] at this
  refine ⟨hj, ?_⟩
  simp [partL, hj] at h
  exact h.symm
theorem tailN_pos {f : Nat → ByteArray} {d : Nat} : ∀ {j}, (∀ i, i < j + 1 → 0 < (f (d + i)).size) → 0 < (tailN f d (j + 1)).size
  | j, h => by
    have := h j (by omega)
    rw [tailN]
    split
    · rw [ByteArray.size_append]; omega
    · rw [ByteArray.size_append, ByteArray.size_append]; omega
theorem tail_join {f : Nat → ByteArray} {d : Nat} : ∀ j, (∀ i, i < j → 0 < (f (d + i)).size) → (tailN f d j).data.toList = Lib.join ((partL f d j).map (·.data.toList)) [46]
  | 0, _ => by simp [tailN, partL, Lib.join_nil]
  | j + 1, h => by
    have ih := tail_join j (fun i hi => h i (by omega))
    have e : (partL f d (j + 1)).map (·.data.toList) = (partL f d j).map (·.data.toList) ++ [(f (d + j)).data.toList] := by simp [partL, List.range_succ]
    rw [e, join_snoc, ← ih]
    cases j with
    | zero =>
      rw [if_pos (by simp [partL])]
      rw [tailN, if_pos (by simp [tailN, Lib.toList_data])]
      simp [tailN]
    | succ j =>
      have hp := tailN_pos (f := f) (d := d) (j := j) (fun i hi => h i (by omega))
      have hne : (tailN f d (j + 1)).toList.isEmpty = false := by
        rw [Lib.toList_data, List.isEmpty_eq_false_iff]
        intro e0
        rw [Lib.size_eq, e0] at hp
        exact absurd hp (by simp)
      rw [if_neg (by simp [partL, List.range_succ])]
      rw [tailN.eq_def f d (j + 1 + 1)]
      simp only
      rw [if_neg (by rw [hne]; decide)]
      simp
end Go.Proofs.YtmlacbjlafdenaaDoor

/- The walk of the specification's SuffixOf. -/
namespace Go.Proofs.YtmlacbjlafdenaaDoor
open Go.RowKit

theorem hostB_pos {s : ByteArray} (h : hostB s = true) : 0 < s.size ∧ s.size ≤ 100 := by
  refine ⟨?_, ?_⟩
  · by_cases hz : 0 < s.size
    · exact hz
    · exfalso
      have e : splitB s 46 = [s.extract 0 s.size] := by
        unfold splitB
        rw [show s.size = 0 by omega]; rfl
      have hl : labelB (s.extract 0 s.size) = false := labelB_size (.inl (by rw [ByteArray.size_extract]; omega))
      have : hostB s = false := hostB_at 0 (by rw [e]; exact Nat.zero_lt_one) (by simp only [e]; exact hl)
      rw [this] at h; cases h
  · by_cases hz : 100 < s.size
    · rw [hostB_size hz] at h; cases h
    · omega
theorem ruleB_sizes {s : ByteArray} (h : ruleB s = true) : 0 < s.size ∧ s.size ≤ 1000 := by
  unfold ruleB at h
  split at h
  · rw [Bool.and_eq_true] at h
    have := hostB_pos h.1
    rw [ByteArray.size_extract] at this
    omega
  · split at h
    · have := hostB_pos h
      rw [ByteArray.size_extract] at this
      omega
    · have := hostB_pos h
      omega
theorem okR_rule {f : Nat → ByteArray} {i : Nat} (h : okR f i = true) : ruleB (f i) = true := by
  cases i with
  | zero => exact h
  | succ m => rw [okR, Bool.and_eq_true] at h; exact h.1
theorem rulesB_parts {n : Nat} {f : Nat → ByteArray} (h : rulesB n f = true) : n ≤ 20 ∧ ∀ i, i < n → 0 < (f i).size ∧ (f i).size ≤ 1000 := by
  unfold rulesB at h
  rw [Bool.and_eq_true, decide_eq_true_eq, decide_eq_true_eq] at h
  exact ⟨h.2, fun i hi => ruleB_sizes (okR_rule (h.1 i hi))⟩
/-- what SuffixOf tells -/
def sufOf (n : Nat) (f : Nat → ByteArray) (s : ByteArray) : ByteArray × ByteArray := if rulesB n f = true ∧ hostB s = true then (sufS n f s, sufD n f s) else (⟨#[]⟩, ⟨#[]⟩)

set_option maxRecDepth 10000 in
set_option maxHeartbeats 2000000 in
theorem specSuffix_any (v : Value) (n B : Nat) (f : Nat → ByteArray) (s : ByteArray) (w : World) (hs : SliceS w B v n f) (l1 : n ≤ 1048576) (hf : ∀ i, i < n → (f i).size ≤ 1048576) :
    Calls Tryd.prog 46 #[v, .string s] w fun e w' => e = .returned (sufV (sufOf n f s).1 (sufOf n f s).2) ∧ Below w.heap.size w w' := by
  have HSl : Hid (SliceS w B v n f) := hs
  have KR : Hid (∀ W, SliceS W B v n f → Calls Tryd.prog 45 #[v] W fun e w' => e = .returned (.bool (rulesB n f)) ∧ Below W.heap.size W w') := fun W a => specRules_any v n B f W a l1 hf
  have KH : Hid (∀ W, Calls Tryd.prog 28 #[.string s] W fun e w' => e = .returned (.bool (hostB s)) ∧ Below W.heap.size W w') := fun W => specHost_any s W
  have KO : Hid (rulesB n f = true → hostB s = true → ∀ W, SliceS W B v n f → Calls Tryd.prog 82 #[v, .string s] W fun e w' => e = .returned (.agg #[.string (sufS n f s), .string (sufD n f s)]) ∧ Below W.heap.size W w') := fun a b W c => specOf_any v n B f s W c l1 (rulesB_parts a).2 (hostB_pos b).2
  have HN : Hid (¬ (rulesB n f = true ∧ hostB s = true) → sufOf n f s = (⟨#[]⟩, ⟨#[]⟩)) := fun h => by rw [sufOf, if_neg h]
  have HY : Hid (rulesB n f = true → hostB s = true → sufOf n f s = (sufS n f s, sufD n f s)) := fun a b => by rw [sufOf, if_pos ⟨a, b⟩]
  have HR20 : Hid (rulesB n f = true → n ≤ 20) := fun a => (rulesB_parts a).1
  have HH : Hid (hostB s = true → s.size ≤ 100) := fun a => (hostB_pos a).2
  clear hf
  obtain ⟨p, cap, rfl, -⟩ := hs
  have HU : Hid (∀ t : TypeId, U2 (w.alloc (.cells #[.string ⟨#[]⟩, .string ⟨#[]⟩] t)) w.heap.size) := fun t => ⟨by simp, by simp, by simp, fun o => by simp⟩
  by_cases h400 : 400 < n
  · have HZ : Hid (sufOf n f s = (⟨#[]⟩, ⟨#[]⟩)) := HN.out (fun a => by have := HR20.out a.1; omega)
    go_enter Tryd.func46, Tryd.ntmps46
    go_wp2
    exact bodyPost_ret (v := sufV ⟨#[]⟩ ⟨#[]⟩) (by simp [sufV, results, Tryd.results46, go_sem]) rfl ⟨by rw [HZ.out], (Below.refl _ _).alloc (Nat.le_refl _) _⟩
  have q1 : decide ((400 : Int) < (n : Int)) = false := by rw [decide_eq_false_iff_not]; omega
  by_cases h8 : 8000 < s.size
  · have HZ : Hid (sufOf n f s = (⟨#[]⟩, ⟨#[]⟩)) := HN.out (fun a => by have := HH.out a.2; omega)
    go_enter Tryd.func46, Tryd.ntmps46
    go_wp2
    exact bodyPost_ret (v := sufV ⟨#[]⟩ ⟨#[]⟩) (by simp [sufV, results, Tryd.results46, go_sem]) rfl ⟨by rw [HZ.out], (Below.refl _ _).alloc (Nat.le_refl _) _⟩
  have q2 : decide ((8000 : Int) < (s.size : Int)) = false := by rw [decide_eq_false_iff_not]; omega
  generalize sufOf n f s = SO at *
  generalize sufS n f s = sS at *
  generalize sufD n f s = sD at *
  generalize rulesB n f = rb at *
  generalize hostB s = hb at *
  cases rb with
  | false =>
    have HZ : Hid (SO = (⟨#[]⟩, ⟨#[]⟩)) := HN.out (fun a => by cases a.1)
    go_enter Tryd.func46, Tryd.ntmps46
    go_wp2_with fail
    refine (KR.out _ (HSl.out.below ((Below.refl _ _).alloc (Nat.le_refl _) _))).mono ?_
    rintro e w1 ⟨rfl, hb1⟩
    obtain ⟨hz1, x0, x1, xf⟩ := (HU.out _).below hb1
    have B1' : Hid (Below w.heap.size w w1) := ((Below.refl _ _).alloc (Nat.le_refl _) _).trans (hb1.mono (by simp))
    clear hb1
    go_wp2
    exact bodyPost_ret (v := sufV ⟨#[]⟩ ⟨#[]⟩) (by simp [sufV, results, Tryd.results46, go_sem, x0, x1]) rfl ⟨by rw [HZ.out], Below.setCell (Below.setCell B1'.out (Nat.le_refl _) _) (Nat.le_refl _) _⟩
  | true =>
    cases hb with
    | false =>
      have HZ : Hid (SO = (⟨#[]⟩, ⟨#[]⟩)) := HN.out (fun a => by cases a.2)
      go_enter Tryd.func46, Tryd.ntmps46
      go_wp2_with fail
      refine (KR.out _ (HSl.out.below ((Below.refl _ _).alloc (Nat.le_refl _) _))).mono ?_
      rintro e w1 ⟨rfl, hb1⟩
      have U1 := (HU.out _).below hb1
      have B1' : Hid (Below w.heap.size w w1) := ((Below.refl _ _).alloc (Nat.le_refl _) _).trans (hb1.mono (by simp))
      clear hb1
      go_wp2_with fail
      refine (KH.out _).mono ?_
      rintro e w2 ⟨rfl, hb2⟩
      obtain ⟨hz2, x0, x1, xf⟩ := U1.below hb2
      have B2' : Hid (Below w.heap.size w w2) := B1'.out.trans (hb2.mono B1'.out.size)
      clear hb2 U1
      go_wp2
      exact bodyPost_ret (v := sufV ⟨#[]⟩ ⟨#[]⟩) (by simp [sufV, results, Tryd.results46, go_sem, x0, x1]) rfl ⟨by rw [HZ.out], Below.setCell (Below.setCell B2'.out (Nat.le_refl _) _) (Nat.le_refl _) _⟩
    | true =>
      have HZ : Hid (SO = (sS, sD)) := HY.out rfl rfl
      have KO2 : Hid _ := KO.out rfl rfl
      clear KO HY HN HR20 HH
      go_enter Tryd.func46, Tryd.ntmps46
      go_wp2_with fail
      refine (KR.out _ (HSl.out.below ((Below.refl _ _).alloc (Nat.le_refl _) _))).mono ?_
      rintro e w1 ⟨rfl, hb1⟩
      have U1 := (HU.out _).below hb1
      have B1' : Hid (Below w.heap.size w w1) := ((Below.refl _ _).alloc (Nat.le_refl _) _).trans (hb1.mono (by simp))
      clear hb1
      go_wp2_with fail
      refine (KH.out _).mono ?_
      rintro e w2 ⟨rfl, hb2⟩
      have U2' := U1.below hb2
      have B2' : Hid (Below w.heap.size w w2) := B1'.out.trans (hb2.mono B1'.out.size)
      clear hb2 U1
      go_wp2_with fail
      refine (KO2.out _ (HSl.out.below B2'.out)).mono ?_
      rintro e w3 ⟨rfl, hb3⟩
      obtain ⟨hz3, x0, x1, xf⟩ := U2'.below hb3
      have B3' : Hid (Below w.heap.size w w3) := B2'.out.trans (hb3.mono B2'.out.size)
      clear hb3 U2'
      go_wp2
      exact bodyPost_ret (v := sufV sS sD) (by simp [sufV, results, Tryd.results46, go_sem, x0, x1]) rfl ⟨by rw [HZ.out], Below.setCell (Below.setCell B3'.out (Nat.le_refl _) _) (Nat.le_refl _) _⟩
end Go.Proofs.YtmlacbjlafdenaaDoor

/- The walk of the program's SuffixOf. -/
namespace Go.Proofs.YtmlacbjlafdenaaDoor
open Go.RowKit

theorem builderX : Builder.Extra Tryd.prog Tryd.lays156_ren where
  sizeBuilder := by kernel_rfl
  liesBuilder := by kernel_rfl
  t5 := Tryd.underlying5
  a5 := Tryd.isAgg5
  z5 := Tryd.sizeOf5
  v5 := Tryd.zeroValue5
  infoByte := by kernel_rfl
  cellsByte := by kernel_rfl
  sizeByte := by kernel_rfl
  neB5 := by decide
/-- labels from place d on, joined -/
theorem join_call (g d n c : Nat) (h : Nat → ByteArray) (w : World) (hg : g < w.heap.size) (hc : ∀ j, j < n → w.cell? ⟨g, d + j, none⟩ = some (.string (h (d + j)))) (hn : n ≤ 101) (hcap : n ≤ c) (hs : ∀ j, j < n → 0 < (h (d + j)).size ∧ (h (d + j)).size ≤ 100) :
    Calls Tryd.prog 101 #[.slice (some ⟨g, d, none⟩) n c, .string ⟨#[46]⟩] w fun e w' => e = .returned (.string (tailN h d n)) ∧ Below w.heap.size w w' := by
  have e := tail_join (f := h) (d := d) n (fun i hi => (hs i hi).1)
  have hz := tailN_size (f := h) (d := d) 100 n (fun i hi => (hs i hi).2)
  have k := Any.strings_Join Tryd.lays156 builderX g d c (partL h d n) ⟨#[46]⟩ w (fun j x hj => by obtain ⟨h1, rfl⟩ := partL_get hj; exact hc j h1) hg (by rw [partL_len]; omega) (by rw [partL_len]; exact hcap)
    (by
      have e2 : (⟨#[46]⟩ : ByteArray).data.toList = [46] := rfl
      rw [e2, ← e, ← Lib.size_eq]; omega)
  rw [partL_len] at k
  have e3 : (⟨(Lib.join ((partL h d n).map (·.data.toList)) (⟨#[46]⟩ : ByteArray).data.toList).toArray⟩ : ByteArray) = tailN h d n := by
    apply bytes_ext
    rw [e]
  rw [e3] at k
  exact k
theorem labelB_pos {t : ByteArray} (h : labelB t = true) : 0 < t.size := by
  by_cases hz : 0 < t.size
  · exact hz
  · rw [labelB_size (.inl (by omega))] at h; cases h
theorem host_labels {s : ByteArray} (h : hostB s = true) : 1 ≤ (splitB s 46).length ∧ (splitB s 46).length ≤ 101 ∧ ∀ i, i < (splitB s 46).length → 0 < (atL (splitB s 46) i).size ∧ (atL (splitB s 46) i).size ≤ 100 := by
  obtain ⟨m0, hm0⟩ := splitB_ne s 46
  have hz := hostB_pos h
  have hl := splitB_len s 46
  refine ⟨by omega, by omega, fun i hi => ?_⟩
  have e : atL (splitB s 46) i = (splitB s 46)[i] := by simp [atL, hi]
  rw [e]
  have ha : labelB (splitB s 46)[i] = true := by
    unfold hostB at h
    rw [Bool.and_eq_true, Bool.and_eq_true, List.all_eq_true] at h
    exact h.1.2 _ (List.getElem_mem hi)
  exact ⟨labelB_pos ha, Nat.le_trans (piece_le (List.getElem_mem hi)) hz.2⟩

set_option maxRecDepth 10000 in
set_option maxHeartbeats 4000000 in
theorem suffixOf_any (v : Value) (n B : Nat) (f : Nat → ByteArray) (s : ByteArray) (w : World) (hG : MaxI w) (hs : SliceS w B v n f) (l1 : n ≤ 1048576) (hf : ∀ i, i < n → (f i).size ≤ 1048576) (hz : s.size ≤ 1048576) :
    Calls Tryd.prog 80 #[v, .string s] w fun e w' => e = .returned (sufV (sufOf n f s).1 (sufOf n f s).2) ∧ Below w.heap.size w w' := by
  have HSl : Hid (SliceS w B v n f) := hs
  have HG : Hid (MaxI w) := hG
  have KR : Hid (∀ W, MaxI W → SliceS W B v n f → Calls Tryd.prog 79 #[v] W fun e w' => e = .returned (.bool (rulesB n f)) ∧ Below W.heap.size W w') := fun W a b => rulesRight_any v n B f W a b l1 hf
  have KH : Hid (∀ W, MaxI W → Calls Tryd.prog 27 #[.string s] W fun e w' => e = .returned (.bool (hostB s)) ∧ Below W.heap.size W w') := fun W a => hostRight_any s W a hz
  have HN : Hid (¬ (rulesB n f = true ∧ hostB s = true) → sufOf n f s = (⟨#[]⟩, ⟨#[]⟩)) := fun h => by rw [sufOf, if_neg h]
  have HY : Hid (rulesB n f = true → hostB s = true → sufOf n f s = (sufS n f s, sufD n f s)) := fun a b => by rw [sufOf, if_pos ⟨a, b⟩]
  have HU : Hid (∀ t : TypeId, U2 (w.alloc (.cells #[.string ⟨#[]⟩, .string ⟨#[]⟩] t)) w.heap.size) := fun t => ⟨by simp, by simp, by simp, fun o => by simp⟩
  have B0 : Hid (∀ t : TypeId, Below w.heap.size w (w.alloc (.cells #[.string ⟨#[]⟩, .string ⟨#[]⟩] t))) := fun t => (Below.refl _ _).alloc (Nat.le_refl _) _
  cases hrb : rulesB n f with
  | false =>
    have HZ : Hid (sufOf n f s = (⟨#[]⟩, ⟨#[]⟩)) := HN.out (fun a => by rw [hrb] at a; cases a.1)
    rw [hrb] at KR
    clear hrb hf hs hG HN HY
    generalize sufOf n f s = SO at *
    go_enter Tryd.func80, Tryd.ntmps80
    go_wp2_with fail
    refine (KR.out _ (HG.out.on (B0.out _)) (HSl.out.below (B0.out _))).mono ?_
    rintro e w1 ⟨rfl, hb1⟩
    obtain ⟨hz1, x0, x1, xf⟩ := (HU.out _).below hb1
    have B1' : Hid (Below w.heap.size w w1) := (B0.out _).trans (hb1.mono (by simp))
    clear hb1
    go_wp2
    exact bodyPost_ret (v := sufV ⟨#[]⟩ ⟨#[]⟩) (by simp [sufV, results, Tryd.results80, go_sem, x0, x1]) rfl ⟨by rw [HZ.out], Below.setCell (Below.setCell B1'.out (Nat.le_refl _) _) (Nat.le_refl _) _⟩
  | true =>
    cases hhb : hostB s with
    | false =>
      have HZ : Hid (sufOf n f s = (⟨#[]⟩, ⟨#[]⟩)) := HN.out (fun a => by rw [hhb] at a; cases a.2)
      rw [hrb] at KR
      rw [hhb] at KH
      clear hrb hhb hf hs hG HN HY
      generalize sufOf n f s = SO at *
      go_enter Tryd.func80, Tryd.ntmps80
      go_wp2_with fail
      refine (KR.out _ (HG.out.on (B0.out _)) (HSl.out.below (B0.out _))).mono ?_
      rintro e w1 ⟨rfl, hb1⟩
      have U1 := (HU.out _).below hb1
      have B1' : Hid (Below w.heap.size w w1) := (B0.out _).trans (hb1.mono (by simp))
      clear hb1
      go_wp2_with fail
      refine (KH.out _ (HG.out.on B1'.out)).mono ?_
      rintro e w2 ⟨rfl, hb2⟩
      obtain ⟨hz2, x0, x1, xf⟩ := U1.below hb2
      have B2' : Hid (Below w.heap.size w w2) := B1'.out.trans (hb2.mono B1'.out.size)
      clear hb2 U1
      go_wp2
      exact bodyPost_ret (v := sufV ⟨#[]⟩ ⟨#[]⟩) (by simp [sufV, results, Tryd.results80, go_sem, x0, x1]) rfl ⟨by rw [HZ.out], Below.setCell (Below.setCell B2'.out (Nat.le_refl _) _) (Nat.le_refl _) _⟩
    | true =>
      obtain ⟨hm1, hm2, hpc⟩ := host_labels hhb
      have HP : Hid (∀ i, i < (splitB s 46).length → 0 < (atL (splitB s 46) i).size ∧ (atL (splitB s 46) i).size ≤ 100) := hpc
      have eL : labelsL s = splitB s 46 := by rw [labelsL, if_pos hhb]
      have KL : Hid (∀ W, MaxI W → Calls Tryd.prog 25 #[.string s] W fun e w' => ∃ v, e = .returned v ∧ SliceS w' W.heap.size v (splitB s 46).length (atL (splitB s 46)) ∧ Below W.heap.size W w' ∧ ∃ p c, v = .slice p (splitB s 46).length c ∧ (splitB s 46).length ≤ c) := fun W a => by
        have := labelsOf_cap s W a hz
        rw [eL] at this; exact this
      have KB : Hid (∀ (v2 : Value) (B2 : Nat) (W : World), MaxI W → SliceS W B v n f → SliceS W B2 v2 (splitB s 46).length (atL (splitB s 46)) → Calls Tryd.prog 100 #[v, v2] W fun e w' => e = .returned (.int .i64 (beginN n f (splitB s 46).length (atL (splitB s 46)) : Nat)) ∧ Below W.heap.size W w') :=
        fun v2 B2 W a b c => begin_any v v2 n _ B B2 f _ W a b c l1 (by omega) hm1 hf
      obtain ⟨hbc, hble⟩ := beginN_count n f (atL (splitB s 46)) hm1
      have hcle := countN_le n f (atL (splitB s 46)) hm1
      have EC : countN n f (splitB s 46).length (atL (splitB s 46)) = sufC n f s := rfl
      have ES : Hid (sufS n f s = tailN (atL (splitB s 46)) ((splitB s 46).length - sufC n f s) (sufC n f s)) := rfl
      have ED : Hid (sufD n f s = if sufC n f s < (splitB s 46).length then tailN (atL (splitB s 46)) ((splitB s 46).length - (sufC n f s + 1)) (sufC n f s + 1) else ⟨#[]⟩) := rfl
      have HZ : Hid (sufOf n f s = (sufS n f s, sufD n f s)) := HY.out hrb hhb
      rw [EC] at hbc hcle
      rw [hrb] at KR
      rw [hhb] at KH
      clear hrb hhb hf hs hG HN HY hpc eL EC
      generalize sufOf n f s = SO at *
      generalize sufS n f s = sS at *
      generalize sufD n f s = sD at *
      generalize sufC n f s = c at *
      generalize beginN n f (splitB s 46).length (atL (splitB s 46)) = b at *
      generalize (splitB s 46).length = m at *
      generalize atL (splitB s 46) = h at *
      obtain rfl : c = m - b := by omega
      have ES1 : Hid (sS = tailN h b (m - b)) := by show _ = _; rw [ES.out, show m - (m - b) = b by omega]
      clear hbc hcle ES
      go_enter Tryd.func80, Tryd.ntmps80
      go_wp2_with fail
      refine (KR.out _ (HG.out.on (B0.out _)) (HSl.out.below (B0.out _))).mono ?_
      rintro e w1 ⟨rfl, hb1⟩
      have U1 : Hid (U2 w1 w.heap.size) := (HU.out _).below hb1
      have B1' : Hid (Below w.heap.size w w1) := (B0.out _).trans (hb1.mono (by simp))
      clear hb1
      go_wp2_with fail
      refine (KH.out _ (HG.out.on B1'.out)).mono ?_
      rintro e w2 ⟨rfl, hb2⟩
      have U2' : Hid (U2 w2 w.heap.size) := U1.out.below hb2
      have B2' : Hid (Below w.heap.size w w2) := B1'.out.trans (hb2.mono B1'.out.size)
      clear hb2 U1
      go_wp2_with fail
      refine (KL.out _ (HG.out.on B2'.out)).mono ?_
      rintro e w3 ⟨vL, rfl, hsl, hb3, pL, cL, rfl, hcL⟩
      have U3' : Hid (U2 w3 w.heap.size) := U2'.out.below hb3
      have B3' : Hid (Below w.heap.size w w3) := B2'.out.trans (hb3.mono B2'.out.size)
      have SL : Hid (SliceS w3 w2.heap.size (.slice pL m cL) m h) := hsl
      clear hb3 hsl U2'
      go_wp2_with fail
      refine (KB.out _ _ _ (HG.out.on B3'.out) (HSl.out.below B3'.out) SL.out).mono ?_
      rintro e w4 ⟨rfl, hb4⟩
      have U4' : Hid (U2 w4 w.heap.size) := U3'.out.below hb4
      have B4' : Hid (Below w.heap.size w w4) := B3'.out.trans (hb4.mono B3'.out.size)
      have SL4 := SL.out.below hb4
      clear hb4 U3' SL KL KB KR KH
      obtain ⟨p', c', e', hg'⟩ := SL4
      obtain ⟨g, rfl, hgB, hgw, hgc⟩ := hg' (by omega)
      obtain ⟨rfl, rfl⟩ : pL = some ⟨g, 0, none⟩ ∧ cL = c' := by injection e' with a b c; exact ⟨a, c⟩
      have HC : Hid (∀ j, j < m → w4.cell? ⟨g, j, none⟩ = some (.string (h j)) ∧ w4.frozen? ⟨g, j, none⟩ = false) := hgc
      clear e' hg' hgc hgB
      have KJ : Hid (∀ (d : Nat) (W : World), d ≤ m → Below w4.heap.size w4 W → Calls Tryd.prog 101 #[.slice (some ⟨g, d, none⟩) (m - d) (cL - d), .string ⟨#[46]⟩] W fun e w' => e = .returned (.string (tailN h d (m - d))) ∧ Below W.heap.size W w') :=
        fun d W hd hb => join_call g d (m - d) (cL - d) h W (Nat.lt_of_lt_of_le hgw hb.size) (fun j hj => by rw [(bcell hb).1 _ _ hgw]; exact (HC.out (d + j) (by omega)).1) (by omega) (by omega) (fun j hj => HP.out (d + j) (by omega))
      have KX : Hid (cL = b → Calls Tryd.prog 101 #[.slice (some ⟨g, 0, none⟩) (m - b) 0, .string ⟨#[46]⟩] w4 fun e w' => e = .returned (.string (tailN h b (m - b))) ∧ Below w4.heap.size w4 w') := fun e => by
        rw [show m - b = 0 by omega]
        exact (Any.strings_Join_none Tryd.lays156 builderX _ _ _ w4).mono fun _ _ ⟨h1, h2⟩ => ⟨h1, h2 ▸ Below.refl _ _⟩
      have b0 : (0 : Int) ≤ b := by omega
      have b1 : (b : Int) ≤ (m : Int) := by omega
      have b2 : (m : Int) ≤ (cL : Int) := by omega
      rw [← ES1.out] at KX
      have KJb : Hid (∀ W : World, Below w4.heap.size w4 W → Calls Tryd.prog 101 #[.slice (some ⟨g, b, none⟩) (m - b) (cL - b), .string ⟨#[46]⟩] W fun e w' => e = .returned (.string sS) ∧ Below W.heap.size W w') := fun W a => by
        have := KJ.out b W hble a
        rw [← ES1.out] at this; exact this
      have KD : Hid (0 < b → ∀ W : World, Below w4.heap.size w4 W → Calls Tryd.prog 101 #[.slice (some ⟨g, b - 1, none⟩) (m - (b - 1)) (cL - (b - 1)), .string ⟨#[46]⟩] W fun e w' => e = .returned (.string sD) ∧ Below W.heap.size W w') := fun hb W a => by
        have := KJ.out (b - 1) W (by omega) a
        rw [ED.out, if_pos (by omega), show m - (m - b + 1) = b - 1 by omega, show m - b + 1 = m - (b - 1) by omega]; exact this
      have KE : Hid (b = 0 → sD = ⟨#[]⟩) := fun hb => by rw [ED.out, if_neg (by omega)]
      clear KJ ES1 ED HP HC
      by_cases hb : b = 0
      · subst hb
        have hcb : ¬ cL = 0 := by omega
        have KJ0 : Hid (Calls Tryd.prog 101 #[.slice (some ⟨g, 0, none⟩) m cL, .string ⟨#[46]⟩] w4 fun e w' => e = .returned (.string sS) ∧ Below w4.heap.size w4 w') := KJb.out w4 (Below.refl _ _)
        have HD : Hid (sD = ⟨#[]⟩) := KE.out rfl
        go_wp2_with fail
        refine KJ0.out.mono ?_
        rintro e w5 ⟨rfl, hb5⟩
        obtain ⟨hz5, x0, x1, xf⟩ := U4'.out.below hb5
        have B5' : Hid (Below w.heap.size w w5) := B4'.out.trans (hb5.mono B4'.out.size)
        clear hb5
        go_wp2
        have y0 : (((w5.setCell ⟨w.heap.size, 0, none⟩ (.string sS)).setCell ⟨w.heap.size, 1, none⟩ (.string ⟨#[]⟩)).alloc (.cells #[.string sS, .string ⟨#[]⟩] 62)).cell? ⟨w.heap.size, 0, none⟩ = some (.string sS) := by
          rw [World.cell?_alloc_lt _ _ _ (by simpa [World.setCell] using hz5), World.cell?_setCell_other _ _ _ _ (by simp)]
          exact World.cell?_setCell_same _ _ _ x0
        have y1 : (((w5.setCell ⟨w.heap.size, 0, none⟩ (.string sS)).setCell ⟨w.heap.size, 1, none⟩ (.string ⟨#[]⟩)).alloc (.cells #[.string sS, .string ⟨#[]⟩] 62)).cell? ⟨w.heap.size, 1, none⟩ = some (.string ⟨#[]⟩) := by
          rw [World.cell?_alloc_lt _ _ _ (by simpa [World.setCell] using hz5)]
          exact World.cell?_setCell_same _ _ _ ((World.cell?_setCell_other _ _ _ _ (by simp)).trans x1)
        have yb : Below w.heap.size w (((w5.setCell ⟨w.heap.size, 0, none⟩ (.string sS)).setCell ⟨w.heap.size, 1, none⟩ (.string ⟨#[]⟩)).alloc (.cells #[.string sS, .string ⟨#[]⟩] 62)) := ((B5'.out.setCell (Nat.le_refl _) _).setCell (Nat.le_refl _) _).alloc (by simp [World.setCell]; omega) _
        generalize ((w5.setCell ⟨w.heap.size, 0, none⟩ (.string sS)).setCell ⟨w.heap.size, 1, none⟩ (.string ⟨#[]⟩)).alloc (.cells #[.string sS, .string ⟨#[]⟩] 62) = W at *
        exact bodyPost_ret (v := sufV sS ⟨#[]⟩) (by simp [sufV, results, Tryd.results80, go_sem, y0, y1]) rfl ⟨by rw [HZ.out, HD.out], yb⟩
      obtain ⟨d, rfl⟩ : ∃ d, b = d + 1 := ⟨b - 1, by omega⟩
      have KD2 : Hid (∀ W : World, Below w4.heap.size w4 W → Calls Tryd.prog 101 #[.slice (some ⟨g, d, none⟩) (m - d) (cL - d), .string ⟨#[46]⟩] W fun e w' => e = .returned (.string sD) ∧ Below W.heap.size W w') := KD.out (by omega)
      have q : decide ((0 : Int) < (d : Int) + 1) = true := by rw [decide_eq_true_iff]; omega
      have hcd : ¬ cL = d := by omega
      have hd0 : (0 : Int) ≤ (d : Int) := by omega
      have hd1 : (d : Int) ≤ (m : Int) := by omega
      have KD3 : Hid (cL = d + 1 → ∀ W : World, Below w4.heap.size w4 W → Calls Tryd.prog 101 #[.slice (some ⟨g, d, none⟩) (m - d) 1, .string ⟨#[46]⟩] W fun e w' => e = .returned (.string sD) ∧ Below W.heap.size W w') := fun e W a => by
        have := KD2.out W a
        rw [show cL - d = 1 by omega] at this; exact this
      clear KD KE hb
      by_cases hcb : cL = d + 1
      all_goals
        go_wp2_with fail
        first | refine (KX.out hcb).mono ?_ | refine (KJb.out w4 (Below.refl _ _)).mono ?_
        rintro e w5 ⟨rfl, hb5⟩
        have U5' : Hid (U2 w5 w.heap.size) := U4'.out.below hb5
        have B5' : Hid (Below w.heap.size w w5) := B4'.out.trans (hb5.mono B4'.out.size)
        have B45 : Hid (Below w4.heap.size w4 w5) := hb5
        have HA6 : Hid (Below w5.heap.size w5 (w5.alloc (.cells #[.string sS, .string ⟨#[]⟩] 62))) := (Below.refl _ _).alloc (Nat.le_refl _) _
        clear hb5
        go_wp2_with fail
        first | refine (KD3.out hcb _ (B45.out.trans (HA6.out.mono B45.out.size))).mono ?_ | refine (KD2.out _ (B45.out.trans (HA6.out.mono B45.out.size))).mono ?_
        rintro e w6 ⟨rfl, hb6⟩
        have U6 := (U5'.out.below HA6.out).below hb6
        have z0 : w6.cell? ⟨w5.heap.size, 0, none⟩ = some (.string sS) := by rw [(bcell hb6).1 _ _ (by simp)]; simp
        have z1 : w6.cell? ⟨w5.heap.size, 1, none⟩ = some (.string ⟨#[]⟩) := by rw [(bcell hb6).1 _ _ (by simp)]; simp
        have zf : ∀ o, w6.frozen? ⟨w5.heap.size, o, none⟩ = false := fun o => by rw [(bcell hb6).2 _ _ (by simp)]; simp
        have hz6 : w5.heap.size < w6.heap.size := by have := hb6.size; simp at this; omega
        have hne : ¬ w5.heap.size = w.heap.size := by have := U5'.out.1; omega
        have B6' : Hid (Below w.heap.size w w6) := (B5'.out.trans (HA6.out.mono B5'.out.size)).trans (hb6.mono (by have := B5'.out.size; simp; omega))
        obtain ⟨hzw, x0, x1, xf⟩ := U6
        clear hb6
        go_wp2
        have y0 : (((w6.setCell ⟨w5.heap.size, 1, none⟩ (.string sD)).setCell ⟨w.heap.size, 0, none⟩ (.string sS)).setCell ⟨w.heap.size, 1, none⟩ (.string sD)).cell? ⟨w.heap.size, 0, none⟩ = some (.string sS) := by
          rw [World.cell?_setCell_other _ _ _ _ (by simp)]
          exact World.cell?_setCell_same _ _ _ ((World.cell?_setCell_other _ _ _ _ (by simp)).trans x0)
        have y1 : (((w6.setCell ⟨w5.heap.size, 1, none⟩ (.string sD)).setCell ⟨w.heap.size, 0, none⟩ (.string sS)).setCell ⟨w.heap.size, 1, none⟩ (.string sD)).cell? ⟨w.heap.size, 1, none⟩ = some (.string sD) :=
          World.cell?_setCell_same _ _ _ ((World.cell?_setCell_other _ _ _ _ (by simp)).trans ((World.cell?_setCell_other _ _ _ _ (by simp)).trans x1))
        have yb : Below w.heap.size w (((w6.setCell ⟨w5.heap.size, 1, none⟩ (.string sD)).setCell ⟨w.heap.size, 0, none⟩ (.string sS)).setCell ⟨w.heap.size, 1, none⟩ (.string sD)) := ((B6'.out.setCell (by have := U5'.out.1; simp; omega) _).setCell (Nat.le_refl _) _).setCell (Nat.le_refl _) _
        generalize ((w6.setCell ⟨w5.heap.size, 1, none⟩ (.string sD)).setCell ⟨w.heap.size, 0, none⟩ (.string sS)).setCell ⟨w.heap.size, 1, none⟩ (.string sD) = W at *
        exact bodyPost_ret (v := sufV sS sD) (by simp [sufV, results, Tryd.results80, go_sem, y0, y1]) rfl ⟨by rw [HZ.out], yb⟩
end Go.Proofs.YtmlacbjlafdenaaDoor

/- The walks of the specification's l02Place, UrlRight, l02Text and UrlText. -/
namespace Go.Proofs.YtmlacbjlafdenaaDoor
open Go.RowKit

def schemeB (t : ByteArray) : Bool := (t.toList == [104, 116, 116, 112]) || (t.toList == [104, 116, 116, 112, 115])
def placeB (sc ho : ByteArray) (po : Int) : Bool := schemeB sc && hostB ho && (decide (1 ≤ po) && decide (po ≤ 65535))
def urlB (sc ho pa : ByteArray) (po : Int) : Bool := placeB sc ho po && pathB pa

set_option maxRecDepth 10000 in
set_option maxHeartbeats 400000 in
theorem specScheme_any (t : ByteArray) (w : World) :
    Calls Tryd.prog 91 #[.string t] w fun e w' => e = .returned (.bool (schemeB t)) ∧ w' = w := by
  unfold schemeB
  cases h : (t.toList == [104, 116, 116, 112]) <;>
  · go_enter Tryd.func91, Tryd.ntmps91
    go_wp2
    go_ret
    exact ⟨rfl, rfl⟩

set_option maxRecDepth 10000 in
set_option maxHeartbeats 400000 in
theorem specIs_any (n lo hi : Int) (w : World) :
    Calls Tryd.prog 76 #[.int .i64 n, .int .i64 lo, .int .i64 hi] w fun e w' => e = .returned (.bool (decide (lo ≤ n) && decide (n ≤ hi))) ∧ w' = w := by
  by_cases h : lo ≤ n
  · go_enter Tryd.func76, Tryd.ntmps76
    go_wp2
    go_ret
    exact ⟨ret_bool (by simp [h]), rfl⟩
  · have q : decide (lo ≤ n) = false := by rw [decide_eq_false_iff_not]; exact h
    go_enter Tryd.func76, Tryd.ntmps76
    go_wp2
    go_ret
    exact ⟨ret_bool (by simp), rfl⟩

set_option maxRecDepth 10000 in
set_option maxHeartbeats 400000 in
theorem specPlace_any (sc ho : ByteArray) (po : Int) (w : World) :
    Calls Tryd.prog 66 #[.string sc, .string ho, .int .i64 po] w fun e w' => e = .returned (.bool (placeB sc ho po)) ∧ Below w.heap.size w w' := by
  have H1 := fun W => specScheme_any sc W
  have H2 := fun W => specHost_any ho W
  have H3 := fun W => specIs_any po 1 65535 W
  have HP : Hid (placeB sc ho po = (schemeB sc && hostB ho && (decide (1 ≤ po) && decide (po ≤ 65535)))) := rfl
  generalize schemeB sc = b1 at *
  generalize hostB ho = b2 at *
  generalize (decide (1 ≤ po) && decide (po ≤ 65535)) = b3 at *
  have G1 : Hid (∀ W, Calls Tryd.prog 91 #[.string sc] W fun e w' => e = .returned (.bool b1) ∧ w' = W) := H1
  have G2 : Hid (∀ W, Calls Tryd.prog 28 #[.string ho] W fun e w' => e = .returned (.bool b2) ∧ Below W.heap.size W w') := H2
  have G3 : Hid (∀ W, Calls Tryd.prog 76 #[.int .i64 po, .int .i64 1, .int .i64 65535] W fun e w' => e = .returned (.bool b3) ∧ w' = W) := H3
  clear H1 H2 H3
  cases b1 with
  | false =>
    go_enter Tryd.func66, Tryd.ntmps66
    go_wp2_with (go_at_call 91; refine (G1.out _).mono ?_; rintro e w1 ⟨rfl, rfl⟩)
    go_ret
    exact ⟨ret_bool (by rw [HP.out]; rfl), Below.refl _ _⟩
  | true =>
    cases b2 with
    | false =>
      go_enter Tryd.func66, Tryd.ntmps66
      go_wp2_with (first | (go_at_call 91; refine (G1.out _).mono ?_; rintro e w1 ⟨rfl, rfl⟩) | (go_at_call 28; refine (G2.out _).mono ?_; rintro e w2 ⟨rfl, hb⟩))
      go_ret
      exact ⟨ret_bool (by rw [HP.out]; rfl), hb⟩
    | true =>
      go_enter Tryd.func66, Tryd.ntmps66
      go_wp2_with (first | (go_at_call 91; refine (G1.out _).mono ?_; rintro e w1 ⟨rfl, rfl⟩) | (go_at_call 28; refine (G2.out _).mono ?_; rintro e w2 ⟨rfl, hb⟩) | (go_at_call 76; refine (G3.out _).mono ?_; rintro e w3 ⟨rfl, rfl⟩))
      go_ret
      exact ⟨ret_bool (by rw [HP.out]; rfl), hb⟩

/-- a Url, as a value -/
def urlV (sc ho pa : ByteArray) (po : Int) : Value := .agg #[.string sc, .string ho, .int .i64 po, .string pa]

set_option maxRecDepth 10000 in
set_option maxHeartbeats 400000 in
theorem specUrlRight_any (sc ho pa : ByteArray) (po : Int) (w : World) :
    Calls Tryd.prog 22 #[urlV sc ho pa po] w fun e w' => e = .returned (.bool (urlB sc ho pa po)) ∧ Below w.heap.size w w' := by
  have H1 := fun W => specPlace_any sc ho po W
  have H2 := fun W => specPath_any pa W
  have HP : Hid (urlB sc ho pa po = (placeB sc ho po && pathB pa)) := rfl
  generalize placeB sc ho po = b1 at *
  generalize pathB pa = b2 at *
  have G1 : Hid (∀ W, Calls Tryd.prog 66 #[.string sc, .string ho, .int .i64 po] W fun e w' => e = .returned (.bool b1) ∧ Below W.heap.size W w') := H1
  have G2 : Hid (∀ W, Calls Tryd.prog 67 #[.string pa] W fun e w' => e = .returned (.bool b2) ∧ w' = W) := H2
  clear H1 H2
  unfold urlV
  cases b1 with
  | false =>
    go_enter Tryd.func22, Tryd.ntmps22
    go_wp2_with fail
    refine (G1.out _).mono ?_
    rintro e w1 ⟨rfl, hb⟩
    go_wp2
    go_ret
    exact ⟨ret_bool (by rw [HP.out]; rfl), ((Below.refl _ _).alloc (Nat.le_refl _) _).trans (hb.mono (by simp))⟩
  | true =>
    go_enter Tryd.func22, Tryd.ntmps22
    go_wp2_with fail
    refine (G1.out _).mono ?_
    rintro e w1 ⟨rfl, hb⟩
    have hc3 : w1.cell? ⟨w.heap.size, 3, none⟩ = some (.string pa) := by rw [(bcell hb).1 _ _ (by simp)]; simp
    go_wp2_with (go_at_call 67; refine (G2.out _).mono ?_; rintro e w2 ⟨rfl, rfl⟩)
    go_ret
    exact ⟨ret_bool (by rw [HP.out]; rfl), ((Below.refl _ _).alloc (Nat.le_refl _) _).trans (hb.mono (by simp))⟩

def usualP (sc : ByteArray) : Int := if (sc.toList == [104, 116, 116, 112, 115]) = true then 443 else 80
/-- the text of a place -/
def placeT (sc ho : ByteArray) (po : Int) : ByteArray := if po = usualP sc then sc ++ ⟨#[58, 47, 47]⟩ ++ ho else sc ++ ⟨#[58, 47, 47]⟩ ++ ho ++ ⟨#[58]⟩ ++ decB po

set_option maxRecDepth 10000 in
set_option maxHeartbeats 400000 in
theorem specUsual_any (t : ByteArray) (w : World) :
    Calls Tryd.prog 86 #[.string t] w fun e w' => e = .returned (.int .i64 (usualP t)) ∧ w' = w := by
  unfold usualP
  cases h : (t.toList == [104, 116, 116, 112, 115]) with
  | true =>
    go_enter Tryd.func86, Tryd.ntmps86
    go_wp2
    go_ret
    exact ⟨rfl, rfl⟩
  | false =>
    go_enter Tryd.func86, Tryd.ntmps86
    go_wp2
    go_ret
    exact ⟨rfl, rfl⟩

theorem decB_size {n : Int} (h1 : -9223372036854775808 ≤ n) (h2 : n ≤ 9223372036854775807) : (decB n).size ≤ 21 := by
  unfold decB
  split
  · exact (by decide : 1 ≤ 21)
  · split
    · have := decA_twenty (m := n.natAbs) (by omega)
      rw [ByteArray.size_append]
      show 1 + (decA n.natAbs).length ≤ 21
      omega
    · have := decA_twenty (m := n.natAbs) (by omega)
      show (decA n.natAbs).length ≤ 21
      omega
theorem specDec_any (n : Int) (w : World) (h1 : -9223372036854775808 ≤ n) (h2 : n ≤ 9223372036854775807) :
    Calls Tryd.prog 90 #[.int .i64 n] w fun e w' => e = .returned (.string (decB n)) ∧ Below w.heap.size w w' := by
  by_cases h0 : n = 0
  · subst h0; exact specDec_zero w
  by_cases hn : n < 0
  · obtain ⟨m, hm⟩ : ∃ m : Nat, n = -(m : Int) := ⟨n.natAbs, by omega⟩
    subst hm
    exact specDec_neg m w (by omega) (by omega)
  · obtain ⟨m, rfl⟩ := Int.eq_ofNat_of_zero_le (show 0 ≤ n by omega)
    exact specDec_pos m w (by omega) (by omega)

set_option maxRecDepth 10000 in
set_option maxHeartbeats 400000 in
theorem specText_any (sc ho : ByteArray) (po : Int) (w : World) (hs : sc.size ≤ 1000) (hh : ho.size ≤ 1000) (h1 : -9223372036854775808 ≤ po) (h2 : po ≤ 9223372036854775807) :
    Calls Tryd.prog 63 #[.string sc, .string ho, .int .i64 po] w fun e w' => e = .returned (.string (placeT sc ho po)) ∧ Below w.heap.size w w' := by
  have H1 := fun W => specUsual_any sc W
  have H2 := fun W => specDec_any po W h1 h2
  have hd := decB_size h1 h2
  have ha : (sc ++ ⟨#[58, 47, 47]⟩ : ByteArray).size ≤ 1003 := by rw [ByteArray.size_append]; show sc.size + 3 ≤ 1003; omega
  have hb : (sc ++ ⟨#[58, 47, 47]⟩ ++ ho : ByteArray).size ≤ 2003 := by rw [ByteArray.size_append]; omega
  have hc : (sc ++ ⟨#[58, 47, 47]⟩ ++ ho ++ ⟨#[58]⟩ : ByteArray).size ≤ 2004 := by rw [ByteArray.size_append]; show _ + 1 ≤ 2004; omega
  have HP : Hid (placeT sc ho po = if po = usualP sc then sc ++ ⟨#[58, 47, 47]⟩ ++ ho else sc ++ ⟨#[58, 47, 47]⟩ ++ ho ++ ⟨#[58]⟩ ++ decB po) := rfl
  generalize usualP sc = us at *
  generalize decB po = d at *
  have G1 : Hid (∀ W, Calls Tryd.prog 86 #[.string sc] W fun e w' => e = .returned (.int .i64 us) ∧ w' = W) := H1
  have G2 : Hid (∀ W, Calls Tryd.prog 90 #[.int .i64 po] W fun e w' => e = .returned (.string d) ∧ Below W.heap.size W w') := H2
  clear H1 H2 h1 h2
  by_cases he : po = us
  · have q : (po != us) = false := by rw [bne_eq_false_iff_eq]; exact he
    have HE : Hid (po = us) := he
    clear he
    go_enter Tryd.func63, Tryd.ntmps63
    go_wp2_with (go_at_call 86; refine (G1.out _).mono ?_; rintro e w1 ⟨rfl, rfl⟩)
    go_ret
    exact ⟨ret_text (by rw [HP.out, if_pos HE.out]), Below.refl _ _⟩
  · have q : (po != us) = true := by rw [bne_iff_ne]; exact he
    have HE : Hid (¬ po = us) := he
    clear he
    go_enter Tryd.func63, Tryd.ntmps63
    go_wp2_with (first | (go_at_call 86; refine (G1.out _).mono ?_; rintro e w1 ⟨rfl, rfl⟩) | (go_at_call 90; refine (G2.out _).mono ?_; rintro e w2 ⟨rfl, hb2⟩))
    go_ret
    exact ⟨ret_text (by rw [HP.out, if_neg HE.out]), hb2⟩
end Go.Proofs.YtmlacbjlafdenaaDoor

/- The walks of the program's pathRight, ownPort, placeRight and UrlRight. -/
namespace Go.Proofs.YtmlacbjlafdenaaDoor
open Go.RowKit

set_option maxRecDepth 10000 in
set_option maxHeartbeats 400000 in
theorem pathRight_any (t : ByteArray) (w : World) :
    Calls Tryd.prog 65 #[.string t] w fun e w' => e = .returned (.bool (pathB t)) ∧ Below w.heap.size w w' := by
  by_cases h1 : t.size < 1
  · have q1 : ((t.size : Int) == 0) = true := by rw [beq_iff_eq]; omega
    go_enter Tryd.func65, Tryd.ntmps65
    go_wp2
    go_ret
    exact ⟨ret_bool (pathB_size (.inl h1)).symm, Below.refl _ _⟩
  have q1 : ((t.size : Int) == 0) = false := by rw [beq_eq_false_iff_ne]; omega
  by_cases h2 : 40 < t.size
  · go_enter Tryd.func65, Tryd.ntmps65
    go_wp2
    go_ret
    exact ⟨ret_bool (pathB_size (.inr h2)).symm, Below.refl _ _⟩
  have q2 : decide ((40 : Int) < (t.size : Int)) = false := by rw [decide_eq_false_iff_not]; omega
  have hp : 0 < t.size := by omega
  by_cases h3 : t[0].toNat = 47
  case neg =>
    have q3 : ((t[0].toNat : Int) != 47) = true := by rw [bne_iff_ne]; omega
    have H3 : Hid (¬ t[0].toNat = 47) := h3
    clear h3
    go_enter Tryd.func65, Tryd.ntmps65
    go_wp2
    go_ret
    exact ⟨ret_bool (pathB_first hp H3.out).symm, Below.refl _ _⟩
  have q3 : ((t[0].toNat : Int) != 47) = false := by rw [bne_eq_false_iff_eq]; omega
  have H3 : Hid (t[0].toNat = 47) := h3
  clear h3
  go_enter Tryd.func65, Tryd.ntmps65
  go_wp2
  go_loopw [4] (fun _ wr => ∃ k : Nat, k ≤ t.size ∧ wr = w.iter t k ∧ Hid (∀ i (h : i < t.size), i < k → pathC t[i].toNat = true)) (fun _ wr => t.size - wr.iterPos w.heap.size)
  case atStart => exact ⟨0, Nat.zero_le _, rfl, fun i _ hi => absurd hi (by omega)⟩
  case round =>
    obtain ⟨k, hk, rfl, HR⟩ := hrel
    by_cases hlt : k < t.size
    · by_cases ha : t[k].toNat < 128
      · have hnx : ∀ ty, (Instr.next (.pointer (some ⟨w.heap.size, 0, none⟩)) true ty).run Tryd.prog (w.iter t k) = _ := fun ty => run_next_ascii w t k ty hlt ha
        by_cases d1 : t[k].toNat < 33
        · go_wp2
          go_ret
          exact ⟨ret_bool (pathB_at k hlt (pathC_no (by omega))).symm, (Below.refl _ _).alloc (Nat.le_refl _) _⟩
        have b1 : decide ((t[k].toNat : Int) < 33) = false := by rw [decide_eq_false_iff_not]; omega
        by_cases d2 : 126 < t[k].toNat
        · go_wp2
          go_ret
          exact ⟨ret_bool (pathB_at k hlt (pathC_no (by omega))).symm, (Below.refl _ _).alloc (Nat.le_refl _) _⟩
        have b2 : decide ((126 : Int) < (t[k].toNat : Int)) = false := by rw [decide_eq_false_iff_not]; omega
        by_cases d3 : t[k].toNat = 63
        · have b3 : ((t[k].toNat : Int) == 63) = true := by rw [beq_iff_eq]; omega
          have D3 : Hid (t[k].toNat = 63) := d3
          clear d3
          go_wp2
          go_ret
          exact ⟨ret_bool (pathB_at k hlt (pathC_no (by have := D3.out; omega))).symm, (Below.refl _ _).alloc (Nat.le_refl _) _⟩
        have b3 : ((t[k].toNat : Int) == 63) = false := by rw [beq_eq_false_iff_ne]; omega
        by_cases d4 : t[k].toNat = 35
        · have b4 : ((t[k].toNat : Int) == 35) = true := by rw [beq_iff_eq]; omega
          have D4 : Hid (t[k].toNat = 35) := d4
          clear d4
          go_wp2
          go_ret
          exact ⟨ret_bool (pathB_at k hlt (pathC_no (by have := D4.out; omega))).symm, (Below.refl _ _).alloc (Nat.le_refl _) _⟩
        have b4 : ((t[k].toNat : Int) == 35) = false := by rw [beq_eq_false_iff_ne]; omega
        by_cases d5 : t[k].toNat = 59
        · have b5 : ((t[k].toNat : Int) == 59) = true := by rw [beq_iff_eq]; omega
          have D5 : Hid (t[k].toNat = 59) := d5
          clear d5
          go_wp2
          go_ret
          exact ⟨ret_bool (pathB_at k hlt (pathC_no (by have := D5.out; omega))).symm, (Below.refl _ _).alloc (Nat.le_refl _) _⟩
        have b5 : ((t[k].toNat : Int) == 59) = false := by rw [beq_eq_false_iff_ne]; omega
        have HC : Hid (pathC t[k].toNat = true) := pathC_yes (by omega)
        clear d3 d4 d5
        go_wp2
        go_roundw
        case rel => exact ⟨k + 1, by omega, rfl, all_succ HR.out hlt HC.out⟩
        case measure => simp; omega
      · have hnx : ∀ ty, (Instr.next (.pointer (some ⟨w.heap.size, 0, none⟩)) true ty).run Tryd.prog (w.iter t k) = _ := fun ty => run_next_any w t k ty hlt
        have hd := (decode_high t k hlt (by omega)).1
        have HK : Hid (pathB t = false) := pathB_at k hlt (pathC_no (by omega))
        generalize Utf8.decode t k = d at *
        obtain ⟨r, n⟩ := d
        have hd2 : 128 ≤ r := hd
        have b1 : decide ((r : Int) < 33) = false := by rw [decide_eq_false_iff_not]; omega
        have b2 : decide ((126 : Int) < (r : Int)) = true := by rw [decide_eq_true_iff]; omega
        clear hd
        go_wp2
        go_ret
        exact ⟨ret_bool HK.out.symm, (Below.refl _ _).alloc (Nat.le_refl _) _⟩
    · have hnx : ∀ ty, (Instr.next (.pointer (some ⟨w.heap.size, 0, none⟩)) true ty).run Tryd.prog (w.iter t k) = _ := fun ty => run_next_end w t k ty hlt
      go_wp2
      go_ret
      exact ⟨ret_bool (pathB_true (by omega) (by omega) (fun _ => H3.out) (fun i h => HR.out i h (by omega))).symm, (Below.refl _ _).alloc (Nat.le_refl _) _⟩

/-- the port of a scheme, 0 of no scheme -/
def ownP (t : ByteArray) : Int := if (t.toList == [104, 116, 116, 112]) = true then 80 else if (t.toList == [104, 116, 116, 112, 115]) = true then 443 else 0
theorem ownP_ne (t : ByteArray) : (ownP t != 0) = schemeB t := by
  unfold ownP schemeB
  cases t.toList == [104, 116, 116, 112] <;> cases t.toList == [104, 116, 116, 112, 115] <;> rfl
theorem ownP_usual {t : ByteArray} (h : schemeB t = true) : ownP t = usualP t := by
  unfold ownP usualP schemeB at *
  cases h1 : t.toList == [104, 116, 116, 112] <;> cases h2 : t.toList == [104, 116, 116, 112, 115] <;> rw [h1, h2] at h
  · cases h
  · rfl
  · rfl
  · rw [beq_iff_eq] at h1 h2; rw [h1] at h2; cases h2

set_option maxRecDepth 10000 in
set_option maxHeartbeats 400000 in
theorem ownPort_any (t : ByteArray) (w : World) :
    Calls Tryd.prog 87 #[.string t] w fun e w' => e = .returned (.int .i64 (ownP t)) ∧ w' = w := by
  unfold ownP
  cases h : (t.toList == [104, 116, 116, 112]) with
  | true =>
    go_enter Tryd.func87, Tryd.ntmps87
    go_wp2
    go_ret
    exact ⟨rfl, rfl⟩
  | false =>
    cases h2 : (t.toList == [104, 116, 116, 112, 115]) with
    | true =>
      go_enter Tryd.func87, Tryd.ntmps87
      go_wp2
      go_ret
      exact ⟨rfl, rfl⟩
    | false =>
      go_enter Tryd.func87, Tryd.ntmps87
      go_wp2
      go_ret
      exact ⟨rfl, rfl⟩

set_option maxRecDepth 10000 in
set_option maxHeartbeats 400000 in
theorem placeRight_any (sc ho : ByteArray) (po : Int) (w : World) (hG : MaxI w) (hh : ho.size ≤ 1048576) :
    Calls Tryd.prog 64 #[.string sc, .string ho, .int .i64 po] w fun e w' => e = .returned (.bool (placeB sc ho po)) ∧ Below w.heap.size w w' := by
  have H1 := fun W => ownPort_any sc W
  have H2 := hostRight_any ho w hG hh
  have HP : Hid (placeB sc ho po = (schemeB sc && hostB ho && (decide (1 ≤ po) && decide (po ≤ 65535)))) := rfl
  have q1 := ownP_ne sc
  generalize schemeB sc = b1 at *
  generalize hostB ho = b2 at *
  generalize ownP sc = op at *
  have G1 : Hid (∀ W, Calls Tryd.prog 87 #[.string sc] W fun e w' => e = .returned (.int .i64 op) ∧ w' = W) := H1
  have G2 : Hid (Calls Tryd.prog 27 #[.string ho] w fun e w' => e = .returned (.bool b2) ∧ Below w.heap.size w w') := H2
  clear H1 H2 hG
  cases b1 with
  | false =>
    go_enter Tryd.func64, Tryd.ntmps64
    go_wp2_with (go_at_call 87; refine (G1.out _).mono ?_; rintro e w1 ⟨rfl, rfl⟩)
    go_ret
    exact ⟨ret_bool (by rw [HP.out]; rfl), Below.refl _ _⟩
  | true =>
    cases b2 with
    | false =>
      go_enter Tryd.func64, Tryd.ntmps64
      go_wp2_with (first | (go_at_call 87; refine (G1.out _).mono ?_; rintro e w1 ⟨rfl, rfl⟩) | (go_at_call 27; refine G2.out.mono ?_; rintro e w2 ⟨rfl, hb⟩))
      go_ret
      exact ⟨ret_bool (by rw [HP.out]; rfl), hb⟩
    | true =>
      by_cases h : 1 ≤ po
      · have q2 : decide (1 ≤ po) = true := by rw [decide_eq_true_iff]; exact h
        go_enter Tryd.func64, Tryd.ntmps64
        go_wp2_with (first | (go_at_call 87; refine (G1.out _).mono ?_; rintro e w1 ⟨rfl, rfl⟩) | (go_at_call 27; refine G2.out.mono ?_; rintro e w2 ⟨rfl, hb⟩))
        go_ret
        exact ⟨ret_bool (by rw [HP.out]; simp [h]), hb⟩
      · have q2 : decide (1 ≤ po) = false := by rw [decide_eq_false_iff_not]; exact h
        go_enter Tryd.func64, Tryd.ntmps64
        go_wp2_with (first | (go_at_call 87; refine (G1.out _).mono ?_; rintro e w1 ⟨rfl, rfl⟩) | (go_at_call 27; refine G2.out.mono ?_; rintro e w2 ⟨rfl, hb⟩))
        go_ret
        exact ⟨ret_bool (by rw [HP.out, q2]; rfl), hb⟩

set_option maxRecDepth 10000 in
set_option maxHeartbeats 400000 in
theorem urlRight_any (sc ho pa : ByteArray) (po : Int) (w : World) (hG : MaxI w) (hh : ho.size ≤ 1048576) :
    Calls Tryd.prog 21 #[urlV sc ho pa po] w fun e w' => e = .returned (.bool (urlB sc ho pa po)) ∧ Below w.heap.size w w' := by
  have H1 := fun W (h : MaxI W) => placeRight_any sc ho po W h hh
  have H2 := fun W => pathRight_any pa W
  have HP : Hid (urlB sc ho pa po = (placeB sc ho po && pathB pa)) := rfl
  have HG : Hid (∀ o, MaxI (w.alloc o)) := fun o => hG.on ((Below.refl _ _).alloc (Nat.le_refl _) _)
  generalize placeB sc ho po = b1 at *
  generalize pathB pa = b2 at *
  have G1 : Hid (∀ W, MaxI W → Calls Tryd.prog 64 #[.string sc, .string ho, .int .i64 po] W fun e w' => e = .returned (.bool b1) ∧ Below W.heap.size W w') := H1
  have G2 : Hid (∀ W, Calls Tryd.prog 65 #[.string pa] W fun e w' => e = .returned (.bool b2) ∧ Below W.heap.size W w') := H2
  clear H1 H2 hG
  unfold urlV
  cases b1 with
  | false =>
    go_enter Tryd.func21, Tryd.ntmps21
    go_wp2_with fail
    refine (G1.out _ (HG.out _)).mono ?_
    rintro e w1 ⟨rfl, hb⟩
    go_wp2
    go_ret
    exact ⟨ret_bool (by rw [HP.out]; rfl), ((Below.refl _ _).alloc (Nat.le_refl _) _).trans (hb.mono (by simp))⟩
  | true =>
    go_enter Tryd.func21, Tryd.ntmps21
    go_wp2_with fail
    refine (G1.out _ (HG.out _)).mono ?_
    rintro e w1 ⟨rfl, hb⟩
    have hc3 : w1.cell? ⟨w.heap.size, 3, none⟩ = some (.string pa) := by rw [(bcell hb).1 _ _ (by simp)]; simp
    have hz1 : w.heap.size < w1.heap.size := by have := hb.size; simp at this; omega
    go_wp2_with (go_at_call 65; refine (G2.out _).mono ?_; rintro e w2 ⟨rfl, hb2⟩)
    go_ret
    exact ⟨ret_bool (by rw [HP.out]; rfl), (((Below.refl _ _).alloc (Nat.le_refl _) _).trans (hb.mono (by simp))).trans (hb2.mono (by omega))⟩
end Go.Proofs.YtmlacbjlafdenaaDoor
