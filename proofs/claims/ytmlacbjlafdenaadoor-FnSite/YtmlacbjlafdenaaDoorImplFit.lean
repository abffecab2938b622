/- The walk of the program's closure that tells whether a rule fits a host's labels from a place on. -/
import Derived.Test.YtmlacbjlafdenaaDoorImplSplit
import Derived.Test.YtmlacbjlafdenaaDoorSpecFits
import Derived.Test.YtmlacbjlafdenaaDoorAtL
namespace Go.Proofs.YtmlacbjlafdenaaDoor
open Go.RowKit

/-- does a rule's text fit the labels from place k on, to their end? -/
def fitK (s : ByteArray) (k m : Nat) (h : Nat → ByteArray) : Bool := decide ((splitB s 46).length + k = m) && fitsB (splitB s 46).length (atL (splitB s 46)) m h
theorem fitK_other {s : ByteArray} {k m : Nat} {h : Nat → ByteArray} (e : ¬ (splitB s 46).length + k = m) : fitK s k m h = false := by unfold fitK; rw [decide_eq_false e]; rfl

set_option maxRecDepth 10000 in
set_option maxHeartbeats 1000000 in
theorem fit_any (s : ByteArray) (k m b B : Nat) (v : Value) (h : Nat → ByteArray) (w : World) (hG : MaxI w) (hs : s.size ≤ 1048576) (hb : b < w.heap.size) (hbc : w.cell? ⟨b, 0, none⟩ = some v) (hv : SliceS w B v m h) (hk : k ≤ m) (hm : m ≤ 1048576) :
    Calls Tryd.prog 140 #[.string s, .int .i64 k, .pointer (some ⟨b, 0, none⟩)] w fun e w' => e = .returned (.bool (fitK s k m h)) ∧ Below w.heap.size w w' := by
  obtain ⟨p2, c2, rfl, g2⟩ := hv
  have HG : Hid (MaxI w) := hG
  have G2 : Hid (0 < m → ∃ g, p2 = some ⟨g, 0, none⟩ ∧ B ≤ g ∧ g < w.heap.size ∧ ∀ j, j < m → w.cell? ⟨g, j, none⟩ = some (.string (h j)) ∧ w.frozen? ⟨g, j, none⟩ = false) := g2
  have HC : Hid (∀ W, MaxI W → Calls Tryd.prog 69 #[.string s, .string ⟨#[46]⟩] W fun e w' => e = .returned (.slice (some ⟨W.heap.size, 0, none⟩) (splitB s 46).length (splitB s 46).length) ∧ w' = W.alloc (.cells (strCells (splitB s 46)).toArray 9)) := fun W h => split_call s W h (by omega)
  have hn := splitB_len s 46
  obtain ⟨n0, hn0⟩ := splitB_ne s 46
  have HN : Hid (¬ (splitB s 46).length + k = m → fitK s k m h = false) := fun e => fitK_other e
  have HY : Hid (∀ n1, (splitB s 46).length = n1 → n1 + k = m → (∀ j, j < n1 → fitAt (atL (splitB s 46)) h k j = false → fitK s k m h = false) ∧ ((∀ j, j < n1 → fitAt (atL (splitB s 46)) h k j = true) → fitK s k m h = true)) := by
    rintro n1 rfl rfl
    rw [Nat.add_comm _ k]
    unfold fitK
    rw [Nat.add_comm _ k, decide_eq_true rfl, Bool.true_and]
    exact ⟨fun j hj hf => fitsB_at j hj hf, fun h => fitsB_all h⟩
  have hAt : ∀ j (hj : j < (splitB s 46).length), (splitB s 46)[j] = atL (splitB s 46) j := fun j hj => by simp [atL, hj]
  have HAt : Hid (∀ j (hj : j < (splitB s 46).length), (splitB s 46)[j] = atL (splitB s 46) j) := hAt
  clear g2 hG hAt
  generalize fitK s k m h = R at *
  generalize splitB s 46 = L at *
  go_enter Tryd.func140, Tryd.ntmps140
  go_wp2_with fail
  refine (HC.out _ HG.out).mono ?_
  rintro e w1 ⟨rfl, rfl⟩
  have hb1 : Below w.heap.size w (w.alloc (.cells (strCells L).toArray 9)) := (Below.refl _ _).alloc (Nat.le_refl _) _
  have hbc1 : (w.alloc (.cells (strCells L).toArray 9)).cell? ⟨b, 0, none⟩ = some (.slice p2 m c2) := by rw [(bcell hb1).1 _ _ hb]; exact hbc
  by_cases hl : L.length + k = m
  · have HY2 := HY.out _ rfl hl
    have q0 : ((L.length : Int) == (m : Int) - (k : Int)) = true := by rw [beq_iff_eq]; omega
    have HC1 : Hid (∀ j, j < L.length → (w.alloc (.cells (strCells L).toArray 9)).cell? ⟨w.heap.size, j, none⟩ = some (.string (atL L j))) := by
      intro j hj
      rw [← HAt.out j hj]
      simp [strCells, hj]
    have HB1 : Hid (Below w.heap.size w (w.alloc (.cells (strCells L).toArray 9))) := hb1
    have HY1 : Hid ((∀ j, j < L.length → fitAt (atL L) h k j = false → R = false) ∧ ((∀ j, j < L.length → fitAt (atL L) h k j = true) → R = true)) := HY2
    have hz1 : w.heap.size < (w.alloc (.cells (strCells L).toArray 9)).heap.size := by simp
    have hmp : 0 < m := by omega
    clear HY HY2 HN hb1 HC HAt
    generalize w.alloc (.cells (strCells L).toArray 9) = w1 at *
    generalize L.length = n at *
    generalize atL L = f at *
    go_wp2
    go_loopw [7, 19] (fun _ i wr => ∃ j : Nat, j ≤ n ∧ i = .int .i64 j ∧ Hid (Below w1.heap.size w1 wr) ∧ Hid (∀ i, i < j → fitAt f h k i = true)) (fun _ i _ => n - (intOf i).toNat)
    case atStart => exact ⟨0, Nat.zero_le _, rfl, Below.refl _ _, fun i hi => absurd hi (by omega)⟩
    case round =>
      obtain ⟨j, hj, rfl, HB, HR⟩ := hrel
      by_cases hlt : j < n
      · obtain ⟨g, rfl, -, hg, hcg⟩ := G2.out hmp
        have d1 : wr.cell? ⟨w.heap.size, j, none⟩ = some (.string (f j)) := by rw [(bcell HB.out).1 _ _ hz1]; exact HC1.out j hlt
        have d2 : wr.cell? ⟨g, k + j, none⟩ = some (.string (h (k + j))) := by
          rw [(bcell HB.out).1 _ _ (by omega), (bcell HB1.out).1 _ _ hg]; exact (hcg (k + j) (by omega)).1
        have d3 : wr.cell? ⟨b, 0, none⟩ = some (.slice (some ⟨g, 0, none⟩) m c2) := by rw [(bcell HB.out).1 _ _ (by omega)]; exact hbc1
        have k0 : (0 : Int) ≤ j := by omega
        have k1 : (j : Int) < n := by omega
        have k2 : (0 : Int) ≤ (k : Int) + j := by omega
        have k3 : (k : Int) + j < (m : Int) := by omega
        have hw : IntKind.i64.wrap ((k : Int) + (j : Int)) = (k : Int) + (j : Int) := by rw [IntKind.wrap_i64]; omega
        clear hcg
        cases hst : ((f j).toList == [42]) with
        | true =>
          have HK : Hid (fitAt f h k j = true) := by show _ = _; rw [fitAt, hst]; rfl
          generalize f j = t at *
          go_wp2
          go_region
          go_wp2
          go_roundw
          case rel =>
            refine ⟨j + 1, by omega, by go_num, HB.out.drew, ?_⟩
            intro i hi
            by_cases e : i = j
            · subst e; exact HK.out
            · exact HR.out i (by omega)
          case measure => simp [intOf]; omega
        | false =>
          cases hsame : ((f j).toList == (h (k + j)).toList) with
          | true =>
            have HK : Hid (fitAt f h k j = true) := by show _ = _; rw [fitAt, hst, hsame]; rfl
            generalize f j = t at *
            generalize h (k + j) = u at *
            go_wp2
            go_region
            go_wp2
            go_roundw
            case rel =>
              refine ⟨j + 1, by omega, by go_num, HB.out.drew, ?_⟩
              intro i hi
              by_cases e : i = j
              · subst e; exact HK.out
              · exact HR.out i (by omega)
            case measure => simp [intOf]; omega
          | false =>
            have HQ : Hid (R = false) := HY1.out.1 j hlt (by rw [fitAt, hst, hsame]; rfl)
            generalize f j = t at *
            generalize h (k + j) = u at *
            go_wp2
            go_region
            go_wp2
            go_ret
            exact ⟨ret_bool HQ.out.symm, HB1.out.trans (HB.out.drew.mono HB1.out.size)⟩
      · go_wp2
        go_ret
        exact ⟨ret_bool (HY1.out.2 (fun i hi => HR.out i (by omega))).symm, HB1.out.trans (HB.out.mono HB1.out.size)⟩
  · have HQ : Hid (R = false) := HN.out hl
    have q0 : ((L.length : Int) == (m : Int) - (k : Int)) = false := by rw [beq_eq_false_iff_ne]; omega
    clear HY HN
    go_wp2
    go_ret
    exact ⟨ret_bool HQ.out.symm, hb1⟩
end Go.Proofs.YtmlacbjlafdenaaDoor
