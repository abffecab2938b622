/- The walk of bitsOf: it answers what rd reads. -/
import Derived.Test.YtcnimhkabeapkaeDoorBits
import Derived.Test.YtcnimhkabeapkaeDoorRd
namespace Go.Proofs.YtcnimhkabeapkaeDoor
open Go.RowKit

/-- what holds where bitsOf jumps: 1: more, 2: last, 0: wrong -/
def JB (s : ByteArray) (w : World) : Nat → Act → World → Prop
  | 0, a', w' => w' = w ∧ ∃ (c : Nat) (b n z : Value) (u5 : Value) (u10 u11 u12 u13 u14 u15 u16 u17 u18 u19 u20 u21 u22 u23 u24 u25 u26 u27 u28 u29 u30 u31 u32 u33 u34 u35 u36 u37 u38 u39 u40 u41 u42 u43 u44 u45 u46 u47 u48 u49 u50 u51 u52 u53 u54 u55 u56 u57 : Value), a' = { tmps := #[.string s, undef, .int .u64 0, .int .i64 0, .nilIface, u5, .int .i64 c, b, n, z, u10, u11, u12, u13, u14, u15, u16, u17, u18, u19, u20, u21, u22, u23, u24, u25, u26, u27, u28, u29, u30, u31, u32, u33, u34, u35, u36, u37, u38, u39, u40, u41, u42, u43, u44, u45, u46, u47, u48, u49, u50, u51, u52, u53, u54, u55, u56, u57], defers := [] } ∧ Hid (rd s.data.toList 0 0 = (0, 0, c)) ∧ ¬ c = 0
  | 1, a', w' => w' = w ∧ ∃ (k u : Nat) (v n z : Int) (b : Value) (u10 u11 u12 u13 u14 u15 u16 u17 u18 u19 u20 u21 u22 u23 u24 u25 u26 u27 u28 u29 u30 u31 u32 u33 u34 u35 u36 u37 u38 u39 u40 u41 u42 u43 u44 u45 u46 u47 u48 u49 u50 u51 u52 u53 u54 u55 u56 u57 : Value), a' = { tmps := #[.string s, undef, .int .u64 0, .int .i64 0, .nilIface, .int .u64 v, .int .i64 0, b, .int .i64 n, .int .i64 z, u10, u11, u12, u13, u14, u15, u16, u17, u18, u19, u20, u21, u22, u23, u24, u25, u26, u27, u28, u29, u30, u31, u32, u33, u34, u35, u36, u37, u38, u39, u40, u41, u42, u43, u44, u45, u46, u47, u48, u49, u50, u51, u52, u53, u54, u55, u56, u57], defers := [] } ∧ v = u ∧ n = k ∧ z = 7 * k ∧ k ≤ 9 ∧ k ≤ s.size ∧ Hid (u < 128 ^ k) ∧ Hid (rd s.data.toList 0 0 = rd (s.data.toList.drop k) k u)
  | 2, a', w' => w' = w ∧ ∃ (k u b : Nat) (v n z : Int) (u10 u11 u12 u13 u14 u15 u16 u17 u18 u19 u20 u21 u22 u23 u24 u25 u26 u27 u28 u29 u30 u31 u32 u33 u34 u35 u36 u37 u38 u39 u40 u41 u42 u43 u44 u45 u46 u47 u48 u49 u50 u51 u52 u53 u54 u55 u56 u57 : Value), a' = { tmps := #[.string s, undef, .int .u64 0, .int .i64 0, .nilIface, .int .u64 v, .int .i64 0, .int .u8 b, .int .i64 n, .int .i64 z, u10, u11, u12, u13, u14, u15, u16, u17, u18, u19, u20, u21, u22, u23, u24, u25, u26, u27, u28, u29, u30, u31, u32, u33, u34, u35, u36, u37, u38, u39, u40, u41, u42, u43, u44, u45, u46, u47, u48, u49, u50, u51, u52, u53, u54, u55, u56, u57], defers := [] } ∧ v = u ∧ n = k + 1 ∧ z = 7 * k ∧ k ≤ 9 ∧ Hid (u < 128 ^ k) ∧ b < 256 ∧ (b < 128 ∨ k = 9) ∧ Hid (rd s.data.toList 0 0 = rdLast b k u)
  | _, _, _ => False
def μB (l : Nat) (a' : Act) (_ : World) : Nat := if l = 1 then 13 - (intOf (a'.tmps.getD 8 undef)).toNat else if l = 2 then 2 else 1

/-- how bitsOf tells a code: no error, or a wrongBytes -/
def errV (c : Nat) : Value := if c = 0 then .nilIface else .iface 41 (.agg #[.int .i64 c])
def bitsV (r : Nat × Nat × Nat) : Value := .tuple #[.int .u64 r.1, .int .i64 r.2.1, errV r.2.2]

set_option maxHeartbeats 2000000 in
theorem bitsOf_any (s : ByteArray) (w : World) (hs : s.size ≤ 8000) :
    Calls Tryd.prog 14 #[.string s] w fun e w' => e = .returned (bitsV (rd s.data.toList 0 0)) ∧ w' = w := by
  go_enter Tryd.func14, Tryd.ntmps14
  go_wp2
  refine wp_scope3 rfl rfl rfl (JB s w) (fun l a w h => by match l, h with | 0, _ => simp | 1, _ => simp | 2, _ => simp) μB ?p0 ?p1 ?p2 ?first
  case first =>
    intro hr1
    go_wp2
    rename_i hK
    refine wp_label ?_
    refine hK _ _ (hr1 _ _ ?_)
    exact ⟨rfl, 0, 0, _, _, _, _, _, _, _, _, _, _, _, _, _, _, _, _, _, _, _, _, _, _, _, _, _, _, _, _, _, _, _, _, _, _, _, _, _, _, _, _, _, _, _, _, _, _, _, _, _, _, _, _, rfl, rfl, rfl, rfl, by omega, by omega, (by decide : 0 < 128 ^ 0), rfl⟩
  case p0 =>
    rintro a' w' ⟨rfl, c, b, n, z, u5, u10, u11, u12, u13, u14, u15, u16, u17, u18, u19, u20, u21, u22, u23, u24, u25, u26, u27, u28, u29, u30, u31, u32, u33, u34, u35, u36, u37, u38, u39, u40, u41, u42, u43, u44, u45, u46, u47, u48, u49, u50, u51, u52, u53, u54, u55, u56, u57, rfl, HR, hc⟩
    go_wp2
    simp only [jumps]
    go_ret3
    exact ⟨by rw [HR.out]; simp [bitsV, errV, hc], rfl⟩
  case p1 =>
    rintro a' w' ⟨rfl, k, u, v, n, z, b, u10, u11, u12, u13, u14, u15, u16, u17, u18, u19, u20, u21, u22, u23, u24, u25, u26, u27, u28, u29, u30, u31, u32, u33, u34, u35, u36, u37, u38, u39, u40, u41, u42, u43, u44, u45, u46, u47, u48, u49, u50, u51, u52, u53, u54, u55, u56, u57, rfl, rfl, rfl, rfl, hk, hks, HU, HR⟩
    by_cases hend : s.size ≤ k
    · have hq : ((k : Int) == (s.size : Int)) = true := by rw [beq_iff_eq]; omega
      go_wp2
      go_step3
      refine ⟨⟨rfl, 4, _, _, _, _, _, _, _, _, _, _, _, _, _, _, _, _, _, _, _, _, _, _, _, _, _, _, _, _, _, _, _, _, _, _, _, _, _, _, _, _, _, _, _, _, _, _, _, _, _, _, _, _, rfl, ?_, by omega⟩, ?_⟩
      · show _ = _
        rw [HR.out, rd_end hend]
      · simp [μB, intOf]; omega
    · have hq : ((k : Int) == (s.size : Int)) = false := by rw [beq_eq_false_iff_ne]; omega
      have hlt : k < s.size := by omega
      have hb := s[k].toNat_lt
      by_cases h128 : s[k].toNat < 128
      · go_wp2
        go_step3
        refine ⟨⟨rfl, k, u, s[k].toNat, _, _, _, _, _, _, _, _, _, _, _, _, _, _, _, _, _, _, _, _, _, _, _, _, _, _, _, _, _, _, _, _, _, _, _, _, _, _, _, _, _, _, _, _, _, _, _, _, _, _, _, rfl, rfl, rfl, rfl, by omega, HU, hb, .inl h128, ?_⟩, ?_⟩
        · show _ = _
          rw [HR.out, rd_last hlt (.inl h128)]
        · simp [μB, intOf]; omega
      · have hq2 : decide ((s[k].toNat : Int) < 128) = false := by rw [decide_eq_false_iff_not]; omega
        by_cases h9 : 9 ≤ k
        · have hq3 : (((k : Int) + 1) == 10) = true := by rw [beq_iff_eq]; omega
          go_wp2
          go_step3
          refine ⟨⟨rfl, k, u, s[k].toNat, _, _, _, _, _, _, _, _, _, _, _, _, _, _, _, _, _, _, _, _, _, _, _, _, _, _, _, _, _, _, _, _, _, _, _, _, _, _, _, _, _, _, _, _, _, _, _, _, _, _, _, rfl, rfl, rfl, rfl, by omega, HU, hb, .inr (by omega), ?_⟩, ?_⟩
          · show _ = _
            rw [HR.out, rd_last hlt (.inr (by omega))]
          · simp [μB, intOf]; omega
        · have hq3 : (((k : Int) + 1) == 10) = false := by rw [beq_eq_false_iff_ne]; omega
          have HV : Hid (bits .or .u64 (u : Int) (IntKind.u64.wrap (((s[k].toNat : Int) - 128) * 2 ^ (7 * k))) = ((u + (s[k].toNat - 128) * 128 ^ k : Nat) : Int)) := by
            show _ = _
            rw [show ((s[k].toNat : Int) - 128) = ((s[k].toNat - 128 : Nat) : Int) by omega]
            exact or_val hk HU.out (small_part (by omega) (by omega))
          go_wp2
          go_step3
          refine ⟨⟨rfl, k + 1, u + (s[k].toNat - 128) * 128 ^ k, _, _, _, _, _, _, _, _, _, _, _, _, _, _, _, _, _, _, _, _, _, _, _, _, _, _, _, _, _, _, _, _, _, _, _, _, _, _, _, _, _, _, _, _, _, _, _, _, _, _, _, _, rfl, HV.out, by omega, by omega, by omega, by omega, part_lt HU.out (by omega), ?_⟩, ?_⟩
          · show _ = _
            rw [HR.out, rd_more hlt (by omega) (by omega)]
          · simp [μB, intOf]; omega
  case p2 =>
    rintro a' w' ⟨rfl, k, u, b, v, n, z, u10, u11, u12, u13, u14, u15, u16, u17, u18, u19, u20, u21, u22, u23, u24, u25, u26, u27, u28, u29, u30, u31, u32, u33, u34, u35, u36, u37, u38, u39, u40, u41, u42, u43, u44, u45, u46, u47, u48, u49, u50, u51, u52, u53, u54, u55, u56, u57, rfl, rfl, rfl, rfl, hk, HU, hb, hlast, HR⟩
    have HL : Hid (b < 128 ∨ k = 9) := hlast
    clear hlast
    rcases (show (9 ≤ k ∧ 1 < b) ∨ (9 ≤ k ∧ b < 1) ∨ (9 ≤ k ∧ 1 ≤ b ∧ b ≤ 1) ∨ (k < 9 ∧ 0 < k ∧ b < 1) ∨ (k < 9 ∧ 0 < k ∧ 1 ≤ b) ∨ (k < 9 ∧ k < 1) by omega) with ⟨h1, h2⟩ | ⟨h1, h2⟩ | ⟨h1, h2, h3⟩ | ⟨h1, h2, h3⟩ | ⟨h1, h2, h3⟩ | ⟨h1, h2⟩
    · have q1 : (((k : Int) + 1) == 10) = true := by rw [beq_iff_eq]; omega
      go_wp2
      go_step3
      refine ⟨⟨rfl, 3, _, _, _, _, _, _, _, _, _, _, _, _, _, _, _, _, _, _, _, _, _, _, _, _, _, _, _, _, _, _, _, _, _, _, _, _, _, _, _, _, _, _, _, _, _, _, _, _, _, _, _, _, rfl, ?_, by omega⟩, ?_⟩
      · show _ = _
        rw [HR.out, rdLast_no (by omega)]
      · simp [μB]
    · have q1 : (((k : Int) + 1) == 10) = true := by rw [beq_iff_eq]; omega
      have q2 : decide ((1 : Int) < (b : Int)) = false := by rw [decide_eq_false_iff_not]; omega
      have q3 : ((b : Int) == 0) = true := by rw [beq_iff_eq]; omega
      go_wp2
      go_step3
      refine ⟨⟨rfl, 3, _, _, _, _, _, _, _, _, _, _, _, _, _, _, _, _, _, _, _, _, _, _, _, _, _, _, _, _, _, _, _, _, _, _, _, _, _, _, _, _, _, _, _, _, _, _, _, _, _, _, _, _, rfl, ?_, by omega⟩, ?_⟩
      · show _ = _
        rw [HR.out, rdLast_no (by omega)]
      · simp [μB]
    · have q1 : (((k : Int) + 1) == 10) = true := by rw [beq_iff_eq]; omega
      have q2 : decide ((1 : Int) < (b : Int)) = false := by rw [decide_eq_false_iff_not]; omega
      have q3 : ((b : Int) == 0) = false := by rw [beq_eq_false_iff_ne]; omega
      have HV : Hid (bits .or .u64 (u : Int) (IntKind.u64.wrap ((b : Int) * 2 ^ (7 * k))) = ((u + b * 128 ^ k : Nat) : Int)) := or_val hk HU.out (one_part hk h3)
      go_wp2
      simp only [jumps]
      go_ret3
      exact ⟨by rw [HR.out, rdLast_yes (by omega)]; simp [bitsV, errV, HV.out], rfl⟩
    · have q1 : (((k : Int) + 1) == 10) = false := by rw [beq_eq_false_iff_ne]; omega
      have q3 : ((b : Int) == 0) = true := by rw [beq_iff_eq]; omega
      go_wp2
      go_step3
      refine ⟨⟨rfl, 3, _, _, _, _, _, _, _, _, _, _, _, _, _, _, _, _, _, _, _, _, _, _, _, _, _, _, _, _, _, _, _, _, _, _, _, _, _, _, _, _, _, _, _, _, _, _, _, _, _, _, _, _, rfl, ?_, by omega⟩, ?_⟩
      · show _ = _
        rw [HR.out, rdLast_no (by omega)]
      · simp [μB]
    · have q1 : (((k : Int) + 1) == 10) = false := by rw [beq_eq_false_iff_ne]; omega
      have q3 : ((b : Int) == 0) = false := by rw [beq_eq_false_iff_ne]; omega
      have HV : Hid (bits .or .u64 (u : Int) (IntKind.u64.wrap ((b : Int) * 2 ^ (7 * k))) = ((u + b * 128 ^ k : Nat) : Int)) := or_val hk HU.out (small_part (by omega) (by have := HL.out; omega))
      go_wp2
      simp only [jumps]
      go_ret3
      exact ⟨by rw [HR.out, rdLast_yes (by omega)]; simp [bitsV, errV, HV.out], rfl⟩
    · have q1 : (((k : Int) + 1) == 10) = false := by rw [beq_eq_false_iff_ne]; omega
      have q2 : decide ((1 : Int) < (k : Int) + 1) = false := by rw [decide_eq_false_iff_not]; omega
      have HV : Hid (bits .or .u64 (u : Int) (IntKind.u64.wrap ((b : Int) * 2 ^ (7 * k))) = ((u + b * 128 ^ k : Nat) : Int)) := or_val hk HU.out (small_part (by omega) (by have := HL.out; omega))
      go_wp2
      simp only [jumps]
      go_ret3
      exact ⟨by rw [HR.out, rdLast_yes (by omega)]; simp [bitsV, errV, HV.out], rfl⟩
end Go.Proofs.YtcnimhkabeapkaeDoor
