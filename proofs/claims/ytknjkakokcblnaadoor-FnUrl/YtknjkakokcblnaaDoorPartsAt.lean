/- The walk of the program's urlParts: what it answers are the parts of the text, if it is one of a right url. -/
import Derived.Test.YtknjkakokcblnaaDoorPartsBack
import Derived.Test.YtknjkakokcblnaaDoorScope5
import Derived.Test.YtknjkakokcblnaaDoorTogether
import Derived.Laws.ResultCell
namespace Go.Proofs.YtknjkakokcblnaaDoor
open Go.RowKit

/-- the url that is being read lies behind what w holds, and behind it the answer's place -/
def UAt (w w' : World) (sc ho pa : ByteArray) (po : Int) : Prop :=
  w.heap.size + 1 < w'.heap.size ∧ Below w.heap.size w w' ∧
  (w'.cell? ⟨w.heap.size + 1, 0, none⟩ = some (.string sc) ∧ w'.cell? ⟨w.heap.size + 1, 1, none⟩ = some (.string ho) ∧ w'.cell? ⟨w.heap.size + 1, 2, none⟩ = some (.int .i64 po) ∧ w'.cell? ⟨w.heap.size + 1, 3, none⟩ = some (.string pa)) ∧
  (∀ o, w'.frozen? ⟨w.heap.size + 1, o, none⟩ = false) ∧
  (w'.cell? ⟨w.heap.size, 0, none⟩ = some (.string ⟨#[]⟩) ∧ w'.cell? ⟨w.heap.size, 1, none⟩ = some (.string ⟨#[]⟩) ∧ w'.cell? ⟨w.heap.size, 2, none⟩ = some (.int .i64 0) ∧ w'.cell? ⟨w.heap.size, 3, none⟩ = some (.string ⟨#[]⟩)) ∧
  (∀ o, w'.frozen? ⟨w.heap.size, o, none⟩ = false)
theorem UAt.made (w : World) (t : TypeId) : UAt w ((w.alloc (.cells #[.string ⟨#[]⟩, .string ⟨#[]⟩, .int .i64 0, .string ⟨#[]⟩] t)).alloc (.cells #[.string ⟨#[]⟩, .string ⟨#[]⟩, .int .i64 0, .string ⟨#[]⟩] t)) ⟨#[]⟩ ⟨#[]⟩ ⟨#[]⟩ 0 := by
  refine ⟨by simp, ((Below.refl _ _).alloc (Nat.le_refl _) _).alloc (by simp) _, ⟨?_, ?_, ?_, ?_⟩, ?_, ⟨?_, ?_, ?_, ?_⟩, ?_⟩
  · rw [World.cell?_alloc_at _ _ _ _ (by simp)]; rfl
  · rw [World.cell?_alloc_at _ _ _ _ (by simp)]; rfl
  · rw [World.cell?_alloc_at _ _ _ _ (by simp)]; rfl
  · rw [World.cell?_alloc_at _ _ _ _ (by simp)]; rfl
  · intro o; simp
  · rw [World.cell?_alloc_lt _ _ ⟨w.heap.size, 0, none⟩ (by simp)]; simp
  · rw [World.cell?_alloc_lt _ _ ⟨w.heap.size, 1, none⟩ (by simp)]; simp
  · rw [World.cell?_alloc_lt _ _ ⟨w.heap.size, 2, none⟩ (by simp)]; simp
  · rw [World.cell?_alloc_lt _ _ ⟨w.heap.size, 3, none⟩ (by simp)]; simp
  · intro o; simp
theorem UAt.below {w w' w2 : World} {sc ho pa : ByteArray} {po : Int} (h : UAt w w' sc ho pa po) (hb : Below w'.heap.size w' w2) : UAt w w2 sc ho pa po := by
  obtain ⟨hz, hB, ⟨c0, c1, c2, c3⟩, hf, ⟨r0, r1, r2, r3⟩, hg⟩ := h
  have hs := hb.size
  obtain ⟨kc, kf⟩ := bcell hb
  refine ⟨by omega, hB.trans (hb.mono (by omega)), ⟨?_, ?_, ?_, ?_⟩, ?_, ⟨?_, ?_, ?_, ?_⟩, ?_⟩
  · rw [kc _ _ hz]; exact c0
  · rw [kc _ _ hz]; exact c1
  · rw [kc _ _ hz]; exact c2
  · rw [kc _ _ hz]; exact c3
  · intro o; rw [kf _ _ hz]; exact hf o
  · rw [kc _ _ (by omega)]; exact r0
  · rw [kc _ _ (by omega)]; exact r1
  · rw [kc _ _ (by omega)]; exact r2
  · rw [kc _ _ (by omega)]; exact r3
  · intro o; rw [kf _ _ (by omega)]; exact hg o
theorem UAt.drew {w w' : World} {sc ho pa : ByteArray} {po : Int} (h : UAt w w' sc ho pa po) : UAt w w'.drew sc ho pa po := h.below ((Below.refl _ _).drew)
theorem UAt.set0 {w w' : World} {sc ho pa : ByteArray} {po : Int} (h : UAt w w' sc ho pa po) (x : ByteArray) : UAt w (w'.setCell ⟨w.heap.size + 1, 0, none⟩ (.string x)) x ho pa po := by
  obtain ⟨hz, hB, ⟨c0, c1, c2, c3⟩, hf, ⟨r0, r1, r2, r3⟩, hg⟩ := h
  refine ⟨by simpa [World.setCell] using hz, hB.setCell (by simp) _, ⟨?_, ?_, ?_, ?_⟩, ?_, ⟨?_, ?_, ?_, ?_⟩, ?_⟩
  · exact World.cell?_setCell_same _ _ _ c0
  · rw [World.cell?_setCell_other _ _ _ _ (by intro h; injection h with _ h; exact absurd h (by decide))]; exact c1
  · rw [World.cell?_setCell_other _ _ _ _ (by intro h; injection h with _ h; exact absurd h (by decide))]; exact c2
  · rw [World.cell?_setCell_other _ _ _ _ (by intro h; injection h with _ h; exact absurd h (by decide))]; exact c3
  · intro o; rw [World.frozen?_setCell]; exact hf o
  · rw [World.cell?_setCell_other _ _ _ _ (by intro h; injection h with h _; omega)]; exact r0
  · rw [World.cell?_setCell_other _ _ _ _ (by intro h; injection h with h _; omega)]; exact r1
  · rw [World.cell?_setCell_other _ _ _ _ (by intro h; injection h with h _; omega)]; exact r2
  · rw [World.cell?_setCell_other _ _ _ _ (by intro h; injection h with h _; omega)]; exact r3
  · intro o; rw [World.frozen?_setCell]; exact hg o
theorem UAt.set1 {w w' : World} {sc ho pa : ByteArray} {po : Int} (h : UAt w w' sc ho pa po) (x : ByteArray) : UAt w (w'.setCell ⟨w.heap.size + 1, 1, none⟩ (.string x)) sc x pa po := by
  obtain ⟨hz, hB, ⟨c0, c1, c2, c3⟩, hf, ⟨r0, r1, r2, r3⟩, hg⟩ := h
  refine ⟨by simpa [World.setCell] using hz, hB.setCell (by simp) _, ⟨?_, ?_, ?_, ?_⟩, ?_, ⟨?_, ?_, ?_, ?_⟩, ?_⟩
  · rw [World.cell?_setCell_other _ _ _ _ (by intro h; injection h with _ h; exact absurd h (by decide))]; exact c0
  · exact World.cell?_setCell_same _ _ _ c1
  · rw [World.cell?_setCell_other _ _ _ _ (by intro h; injection h with _ h; exact absurd h (by decide))]; exact c2
  · rw [World.cell?_setCell_other _ _ _ _ (by intro h; injection h with _ h; exact absurd h (by decide))]; exact c3
  · intro o; rw [World.frozen?_setCell]; exact hf o
  · rw [World.cell?_setCell_other _ _ _ _ (by intro h; injection h with h _; omega)]; exact r0
  · rw [World.cell?_setCell_other _ _ _ _ (by intro h; injection h with h _; omega)]; exact r1
  · rw [World.cell?_setCell_other _ _ _ _ (by intro h; injection h with h _; omega)]; exact r2
  · rw [World.cell?_setCell_other _ _ _ _ (by intro h; injection h with h _; omega)]; exact r3
  · intro o; rw [World.frozen?_setCell]; exact hg o
theorem UAt.set2 {w w' : World} {sc ho pa : ByteArray} {po : Int} (h : UAt w w' sc ho pa po) (x : Int) : UAt w (w'.setCell ⟨w.heap.size + 1, 2, none⟩ (.int .i64 x)) sc ho pa x := by
  obtain ⟨hz, hB, ⟨c0, c1, c2, c3⟩, hf, ⟨r0, r1, r2, r3⟩, hg⟩ := h
  refine ⟨by simpa [World.setCell] using hz, hB.setCell (by simp) _, ⟨?_, ?_, ?_, ?_⟩, ?_, ⟨?_, ?_, ?_, ?_⟩, ?_⟩
  · rw [World.cell?_setCell_other _ _ _ _ (by intro h; injection h with _ h; exact absurd h (by decide))]; exact c0
  · rw [World.cell?_setCell_other _ _ _ _ (by intro h; injection h with _ h; exact absurd h (by decide))]; exact c1
  · exact World.cell?_setCell_same _ _ _ c2
  · rw [World.cell?_setCell_other _ _ _ _ (by intro h; injection h with _ h; exact absurd h (by decide))]; exact c3
  · intro o; rw [World.frozen?_setCell]; exact hf o
  · rw [World.cell?_setCell_other _ _ _ _ (by intro h; injection h with h _; omega)]; exact r0
  · rw [World.cell?_setCell_other _ _ _ _ (by intro h; injection h with h _; omega)]; exact r1
  · rw [World.cell?_setCell_other _ _ _ _ (by intro h; injection h with h _; omega)]; exact r2
  · rw [World.cell?_setCell_other _ _ _ _ (by intro h; injection h with h _; omega)]; exact r3
  · intro o; rw [World.frozen?_setCell]; exact hg o
theorem UAt.set3 {w w' : World} {sc ho pa : ByteArray} {po : Int} (h : UAt w w' sc ho pa po) (x : ByteArray) : UAt w (w'.setCell ⟨w.heap.size + 1, 3, none⟩ (.string x)) sc ho x po := by
  obtain ⟨hz, hB, ⟨c0, c1, c2, c3⟩, hf, ⟨r0, r1, r2, r3⟩, hg⟩ := h
  refine ⟨by simpa [World.setCell] using hz, hB.setCell (by simp) _, ⟨?_, ?_, ?_, ?_⟩, ?_, ⟨?_, ?_, ?_, ?_⟩, ?_⟩
  · rw [World.cell?_setCell_other _ _ _ _ (by intro h; injection h with _ h; exact absurd h (by decide))]; exact c0
  · rw [World.cell?_setCell_other _ _ _ _ (by intro h; injection h with _ h; exact absurd h (by decide))]; exact c1
  · rw [World.cell?_setCell_other _ _ _ _ (by intro h; injection h with _ h; exact absurd h (by decide))]; exact c2
  · exact World.cell?_setCell_same _ _ _ c3
  · intro o; rw [World.frozen?_setCell]; exact hf o
  · rw [World.cell?_setCell_other _ _ _ _ (by intro h; injection h with h _; omega)]; exact r0
  · rw [World.cell?_setCell_other _ _ _ _ (by intro h; injection h with h _; omega)]; exact r1
  · rw [World.cell?_setCell_other _ _ _ _ (by intro h; injection h with h _; omega)]; exact r2
  · rw [World.cell?_setCell_other _ _ _ _ (by intro h; injection h with h _; omega)]; exact r3
  · intro o; rw [World.frozen?_setCell]; exact hg o

/-- what holds where urlParts jumps: 0: wrong, 1: scheme, 2: host, 3: port, 4: path -/
def JU (t : ByteArray) (w : World) : Nat → Act → World → Prop
  | 0, a', w' => ∃ (sc ho pa : ByteArray) (po : Int) (b k : Value) (u6 u7 u8 u9 u10 u11 u12 u13 u14 u15 u16 u17 u18 u19 u20 u21 u22 u23 u24 u25 u26 u27 u28 u29 u30 u31 u32 u33 u34 u35 u36 u37 u38 u39 u40 u41 u42 u43 u44 u45 u46 u47 u48 u49 u50 u51 u52 u53 u54 u55 u56 u57 u58 u59 u60 u61 u62 u63 u64 u65 u66 u67 u68 u69 u70 u71 u72 u73 u74 u75 u76 u77 u78 u79 u80 u81 u82 u83 u84 u85 u86 u87 u88 u89 : Value), a' = { tmps := #[.string t, undef, .pointer (some ⟨w.heap.size, 0, none⟩), .pointer (some ⟨w.heap.size + 1, 0, none⟩), b, k, u6, u7, u8, u9, u10, u11, u12, u13, u14, u15, u16, u17, u18, u19, u20, u21, u22, u23, u24, u25, u26, u27, u28, u29, u30, u31, u32, u33, u34, u35, u36, u37, u38, u39, u40, u41, u42, u43, u44, u45, u46, u47, u48, u49, u50, u51, u52, u53, u54, u55, u56, u57, u58, u59, u60, u61, u62, u63, u64, u65, u66, u67, u68, u69, u70, u71, u72, u73, u74, u75, u76, u77, u78, u79, u80, u81, u82, u83, u84, u85, u86, u87, u88, u89], defers := [] } ∧ Hid (UAt w w' sc ho pa po) ∧ Hid (IsParts t ⟨#[]⟩ ⟨#[]⟩ 0 ⟨#[]⟩)
  | 1, a', w' => ∃ (k : Nat) (z : Int) (u6 u7 u8 u9 u10 u11 u12 u13 u14 u15 u16 u17 u18 u19 u20 u21 u22 u23 u24 u25 u26 u27 u28 u29 u30 u31 u32 u33 u34 u35 u36 u37 u38 u39 u40 u41 u42 u43 u44 u45 u46 u47 u48 u49 u50 u51 u52 u53 u54 u55 u56 u57 u58 u59 u60 u61 u62 u63 u64 u65 u66 u67 u68 u69 u70 u71 u72 u73 u74 u75 u76 u77 u78 u79 u80 u81 u82 u83 u84 u85 u86 u87 u88 u89 : Value), a' = { tmps := #[.string t, undef, .pointer (some ⟨w.heap.size, 0, none⟩), .pointer (some ⟨w.heap.size + 1, 0, none⟩), .int .i64 0, .int .i64 z, u6, u7, u8, u9, u10, u11, u12, u13, u14, u15, u16, u17, u18, u19, u20, u21, u22, u23, u24, u25, u26, u27, u28, u29, u30, u31, u32, u33, u34, u35, u36, u37, u38, u39, u40, u41, u42, u43, u44, u45, u46, u47, u48, u49, u50, u51, u52, u53, u54, u55, u56, u57, u58, u59, u60, u61, u62, u63, u64, u65, u66, u67, u68, u69, u70, u71, u72, u73, u74, u75, u76, u77, u78, u79, u80, u81, u82, u83, u84, u85, u86, u87, u88, u89], defers := [] } ∧ z = k ∧ k ≤ t.size ∧ Hid (UAt w w' ⟨#[]⟩ ⟨#[]⟩ ⟨#[]⟩ 0) ∧ Hid (∀ i (h : i < t.size), i < k → colC t[i].toNat = false)
  | 2, a', w' => ∃ (k j : Nat) (y z : Int) (u6 u7 u8 u9 u10 u11 u12 u13 u14 u15 u16 u17 u18 u19 u20 u21 u22 u23 u24 u25 u26 u27 u28 u29 u30 u31 u32 u33 u34 u35 u36 u37 u38 u39 u40 u41 u42 u43 u44 u45 u46 u47 u48 u49 u50 u51 u52 u53 u54 u55 u56 u57 u58 u59 u60 u61 u62 u63 u64 u65 u66 u67 u68 u69 u70 u71 u72 u73 u74 u75 u76 u77 u78 u79 u80 u81 u82 u83 u84 u85 u86 u87 u88 u89 : Value), a' = { tmps := #[.string t, undef, .pointer (some ⟨w.heap.size, 0, none⟩), .pointer (some ⟨w.heap.size + 1, 0, none⟩), .int .i64 y, .int .i64 z, u6, u7, u8, u9, u10, u11, u12, u13, u14, u15, u16, u17, u18, u19, u20, u21, u22, u23, u24, u25, u26, u27, u28, u29, u30, u31, u32, u33, u34, u35, u36, u37, u38, u39, u40, u41, u42, u43, u44, u45, u46, u47, u48, u49, u50, u51, u52, u53, u54, u55, u56, u57, u58, u59, u60, u61, u62, u63, u64, u65, u66, u67, u68, u69, u70, u71, u72, u73, u74, u75, u76, u77, u78, u79, u80, u81, u82, u83, u84, u85, u86, u87, u88, u89], defers := [] } ∧ y = k + 3 ∧ z = j ∧ k + 3 ≤ j ∧ j ≤ t.size ∧ Hid (UAt w w' (t.extract 0 k) ⟨#[]⟩ ⟨#[]⟩ 0) ∧ Hid (∀ i (h : i < t.size), i < k → colC t[i].toNat = false) ∧ Hid (∀ h : k < t.size, colC t[k].toNat = true) ∧ Hid (∀ i (h : i < t.size), k + 3 ≤ i → i < j → endC t[i].toNat = false)
  | 3, a', w' => ∃ (k j n : Nat) (y z p q : Int) (u6 u7 u8 u9 u10 u11 u12 u13 u14 u15 u16 u17 u18 u19 u20 u21 u22 u23 u24 u25 u26 u27 u28 u29 u30 u31 u32 u33 u34 u35 u36 u37 u38 u39 u40 u41 u42 u43 u44 u45 u46 u47 u48 u49 u50 u51 u52 u53 u54 u55 u56 u57 u58 u59 u60 u61 u62 u63 u64 u65 u66 u67 u68 u69 u70 u71 u72 u73 u74 u75 u76 u77 u78 u79 u80 u81 u82 u83 u84 u85 u86 u87 u88 u89 : Value), a' = { tmps := #[.string t, undef, .pointer (some ⟨w.heap.size, 0, none⟩), .pointer (some ⟨w.heap.size + 1, 0, none⟩), .int .i64 y, .int .i64 z, u6, u7, u8, u9, u10, u11, u12, u13, u14, u15, u16, u17, u18, u19, u20, u21, u22, u23, u24, u25, u26, u27, u28, u29, u30, u31, u32, u33, u34, u35, u36, u37, u38, u39, u40, u41, u42, u43, u44, u45, u46, u47, u48, u49, u50, u51, u52, u53, u54, u55, u56, u57, u58, u59, u60, u61, u62, u63, u64, u65, u66, u67, u68, u69, u70, u71, u72, u73, u74, u75, u76, u77, u78, u79, u80, u81, u82, u83, u84, u85, u86, u87, u88, u89], defers := [] } ∧ z = n ∧ j + 1 ≤ n ∧ n ≤ t.size ∧ k + 3 ≤ j ∧ -9223372036854775808 ≤ p ∧ p ≤ 9223372036854775807 ∧ Hid (UAt w w' (t.extract 0 k) (t.extract (k + 3) j) ⟨#[]⟩ p) ∧ Hid (∀ i (h : i < t.size), i < k → colC t[i].toNat = false) ∧ Hid (∀ h : k < t.size, colC t[k].toNat = true) ∧ Hid (∀ i (h : i < t.size), k + 3 ≤ i → i < j → endC t[i].toNat = false) ∧ Hid (∀ h : j < t.size, t[j].toNat = 58) ∧ Hid (∀ i (h : i < t.size), j + 1 ≤ i → i < n → nodC t[i].toNat = false) ∧ Hid (p = numL ((t.data.toList.drop (j + 1)).take (n - (j + 1))) + q * 18446744073709551616)
  | 4, a', w' => ∃ (n : Nat) (sc ho : ByteArray) (po y z : Int) (u6 u7 u8 u9 u10 u11 u12 u13 u14 u15 u16 u17 u18 u19 u20 u21 u22 u23 u24 u25 u26 u27 u28 u29 u30 u31 u32 u33 u34 u35 u36 u37 u38 u39 u40 u41 u42 u43 u44 u45 u46 u47 u48 u49 u50 u51 u52 u53 u54 u55 u56 u57 u58 u59 u60 u61 u62 u63 u64 u65 u66 u67 u68 u69 u70 u71 u72 u73 u74 u75 u76 u77 u78 u79 u80 u81 u82 u83 u84 u85 u86 u87 u88 u89 : Value), a' = { tmps := #[.string t, undef, .pointer (some ⟨w.heap.size, 0, none⟩), .pointer (some ⟨w.heap.size + 1, 0, none⟩), .int .i64 y, .int .i64 z, u6, u7, u8, u9, u10, u11, u12, u13, u14, u15, u16, u17, u18, u19, u20, u21, u22, u23, u24, u25, u26, u27, u28, u29, u30, u31, u32, u33, u34, u35, u36, u37, u38, u39, u40, u41, u42, u43, u44, u45, u46, u47, u48, u49, u50, u51, u52, u53, u54, u55, u56, u57, u58, u59, u60, u61, u62, u63, u64, u65, u66, u67, u68, u69, u70, u71, u72, u73, u74, u75, u76, u77, u78, u79, u80, u81, u82, u83, u84, u85, u86, u87, u88, u89], defers := [] } ∧ z = n ∧ n ≤ t.size ∧ sc.size ≤ 8000 ∧ ho.size ≤ 8000 ∧ Hid (UAt w w' sc ho ⟨#[]⟩ po) ∧ Hid (IsParts t sc ho po (t.extract n t.size))
  | _, _, _ => False
def μU (l : Nat) (a' : Act) (_ : World) : Nat := if l = 0 then 0 else if l = 4 then 1 else (4 - l) * 10000 + 9000 - (intOf (a'.tmps.getD 5 undef)).toNat
end Go.Proofs.YtknjkakokcblnaaDoor
