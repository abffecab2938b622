/- 25 of this claim's texts, one behind the other. -/
import Derived.Test.YthcpmbolnmlohaaDoorRows
import Derived.Below
import Derived.WalkKit
import Derived.WalkSpells
import Derived.WalkLawsBesides
import Derived.Laws.CopyOwn
import Derived.Lib.BufferWrite
import Derived.Laws.IdiomStrings
import Derived.Deep.RegionHeld3
import Derived.Laws.Bits64
import Derived.Deep.QuietTactic
import Derived.BigQuiet
import Derived.Deep.RegionWith
import Derived.Maps.AppendAt
import Derived.Lib.SplitLaws
import Derived.Lib.TrimByte
/- Small facts that the walks close with: equal values make equal endings; what lies below a block is as it was. -/
namespace Go.Proofs.YthcpmbolnmlohaaDoor
open Go.RowKit
theorem ret_bool {a b : Bool} (h : a = b) : Ending.returned (.bool a) = .returned (.bool b) := by rw [h]
theorem val_int {k : IntKind} {a b : Int} (h : a = b) : Value.int k a = .int k b := by rw [h]
theorem ret_int {k : IntKind} {a b : Int} (h : a = b) : Ending.returned (.int k a) = .returned (.int k b) := by rw [h]
theorem ret_text {a b : ByteArray} (h : a = b) : Ending.returned (.string a) = .returned (.string b) := by rw [h]
theorem bcell {W w1 : World} (hb : Below W.heap.size W w1) : (∀ b o, b < W.heap.size → w1.cell? ⟨b, o, none⟩ = W.cell? ⟨b, o, none⟩) ∧ (∀ b o, b < W.heap.size → w1.frozen? ⟨b, o, none⟩ = W.frozen? ⟨b, o, none⟩) :=
  ⟨fun b o h => hb.cell (p := ⟨b, o, none⟩) h, fun b o h => hb.frozen (p := ⟨b, o, none⟩) h⟩
theorem own_shape {w : World} {base n : Nat} {e : TypeId} {v : Value} {xs : List Value} (h : w.ownsRow base e 1 v (n + 1) xs) : ∃ g cap, v = .slice (some ⟨g, 0, none⟩) (n + 1) cap := by
  obtain ⟨_, ⟨_, h0⟩ | ⟨g, cap, _, hv, _⟩⟩ := h
  · omega
  · exact ⟨g, cap, hv⟩
end Go.Proofs.YthcpmbolnmlohaaDoor

/- Run equations at rows of bytes that a call makes itself: make, copy from a text, string of a row: each stated at whatever program; the world behind is a letter of which the row and Below are known. -/
namespace Go.Proofs.YthcpmbolnmlohaaDoor
open Go.RowKit

theorem infoU8 : (Tryd.prog.info? 5).map (fun i => (i.zero, i.size, i.bytes)) = some (some (.int .u8 0), 1, 1) := by kernel_rfl
theorem sizeU8 : (Tryd.prog.info? 5).map (·.size) = some 1 := by kernel_rfl

/-- the block g holds the cells L, none of them frozen -/
def RowAt (w : World) (g : Nat) (t : TypeId) (L : List Value) : Prop := w.heap[g]? = some (.cells L.toArray t (0, 0))

theorem make_row {P : Program} (w : World) (t e : TypeId) (z : Value) (h1 : P.underlying t = some (.slice e))
    (hi : (P.info? e).map (fun i => (i.zero, i.size, i.bytes)) = some (some z, 1, 1)) (L : Int) (n : Nat) (hL : L = (n : Int)) (b2 : n ≤ 281474976710656) :
    ∃ w' Z, Sem.run P (Instr.makeSlice t (.int .i64 L) (.int .i64 L)) w = .ok (.slice (some ⟨w.heap.size, 0, none⟩) n n) w' ∧
      RowAt w' w.heap.size e Z ∧ Z.length = n ∧ w'.heap.size = w.heap.size + 1 ∧ Below w.heap.size w w' := by
  obtain ⟨i, h2, h3, h4, h5⟩ := info_parts hi
  subst hL
  have hrun := run_make (P := P) w t e i z h1 h2 h3 .i64 .i64 n n (by omega) (Int.le_refl _) (by rw [h5]; omega) (by omega)
  simp only [Int.toNat_natCast, h4, Nat.mul_one] at hrun
  refine ⟨_, (madeCells z.cells n).toList, hrun, ?_, by simp [size_madeCells], by simp, (Below.refl _ _).alloc (Nat.le_refl _) _⟩
  unfold RowAt; rw [heap_alloc_new]

theorem copy_text {P : Program} (w : World) (dT sT ty elem : TypeId) (hu : P.underlying dT = some (.slice elem)) (hsz : (P.info? elem).map (·.size) = some 1)
    (dp : Option Addr) (dLen dCap : Nat) (x : ByteArray) (hle : x.size ≤ dLen)
    (g off : Nat) (cur : List Value) (t : TypeId) (hg : RowAt w g t cur) (hpos : 0 < x.size → dp = some ⟨g, off, none⟩)
    (hfit : off + x.size ≤ cur.length) :
    ∃ w', Sem.run P (Builtin.copy_ #[dT, sT] ty #[.slice dp dLen dCap, .string x]) w = .ok (goInt x.size) w' ∧
      RowAt w' g t (splice cur off (Lib.byteCells x.data.toList)) ∧ w'.heap.size = w.heap.size ∧ (∀ B w0, Below B w0 w → B ≤ g → Below B w0 w') := by
  by_cases h0 : x.size = 0
  · have hrun := Lib.run_copy_empty_string (P := P) w dT sT ty elem dp dLen dCap x hu (by rw [Option.isSome_iff_exists]; exact ⟨1, hsz⟩) h0
    have hnil : x.data.toList = [] := List.eq_nil_of_length_eq_zero (by rw [← Lib.size_eq]; exact h0)
    exact ⟨w, by rw [hrun, h0]; rfl, by rw [hnil]; simpa [splice, Lib.byteCells] using hg, rfl, fun _ _ h _ => h⟩
  · obtain rfl := hpos (by omega)
    have hrun := Lib.run_copy_row_string (P := P) w dT sT ty elem g off dLen dCap x cur.toArray t hu hsz hg hle (by simpa using hfit)
    refine ⟨_, hrun, ?_, by simp [World.setRow], fun B w0 hb hBg => below_setRow hb hBg _⟩
    have := setRow_heap w g _ (List.take off cur ++ (Lib.byteCells x.data.toList ++ List.drop (off + x.size) cur)).toArray t _ hg
    have hl : (Lib.byteCells x.data.toList).length = x.size := by rw [Lib.byteCells_length, ← Lib.size_eq]
    unfold RowAt splice
    rw [hl]
    simpa using this

theorem row_cell {w : World} {g : Nat} {t : TypeId} {L : List Value} (hg : RowAt w g t L) (j : Nat) : w.cell? ⟨g, j, none⟩ = L[j]? := by
  simp [World.cell?, RowAt] at *
  rw [hg]; simp

/-- string(b), b the first n cells of a row whose first cells are the bytes l -/
theorem text_of_row {P : Program} (w : World) (src dst e : TypeId) (hs : P.underlying src = some (.slice e)) (he : P.underlying e = some (.int .u8)) (hd : P.underlying dst = some .string)
    (g n cap : Nat) (t : TypeId) (l : List UInt8) (more : List Value) (hg : RowAt w g t (Lib.byteCells l ++ more)) (hn : l.length = n) :
    Sem.run P (convert src dst (.slice (some ⟨g, 0, none⟩) n cap)) w = .ok (.string ⟨l.toArray⟩) w := by
  subst hn
  refine run_convert_bytes_back (P := P) w src dst e ⟨g, 0, none⟩ cap l hs he hd ?_
  intro j hj
  have ha : (⟨g, 0, none⟩ : Addr).add j = ⟨g, j, none⟩ := by
    unfold Addr.add; split
    · rename_i h; subst h; rfl
    · simp
  rw [ha, row_cell hg, List.getElem?_append_left (by rw [Lib.byteCells_length]; exact hj)]
  simp [Lib.byteCells, hj]

theorem splice_two {α : Type} (Z X Y : List α) (h : Z.length = X.length + Y.length) : splice (splice Z 0 X) X.length Y = X ++ Y := by
  unfold splice
  simp
  omega
theorem byteCells_append (a b : List UInt8) : Lib.byteCells (a ++ b) = Lib.byteCells a ++ Lib.byteCells b := by simp [Lib.byteCells]
theorem text_append (x y : ByteArray) : (⟨(x.data.toList ++ y.data.toList).toArray⟩ : ByteArray) = x ++ y := by
  apply ByteArray.ext; simp
theorem size_list (l : List UInt8) : (⟨l.toArray⟩ : ByteArray).size = l.length := rfl
theorem len_cells (x : ByteArray) : (Lib.byteCells x.data.toList).length = x.size := by rw [Lib.byteCells_length, ← Lib.size_eq]
end Go.Proofs.YthcpmbolnmlohaaDoor

/- The specification's source of draws: what it tells is somewhere in its bounds; it writes into its own block alone. -/
namespace Go.Proofs.YthcpmbolnmlohaaDoor
open Go.RowKit

/-- the bytes of a source: readable, and of a block below g -/
def BytesOf (w : World) (g : Nat) (a : Option Addr) (len : Nat) : Prop := ∀ i, i < len → ∃ (x : Addr) (z : Int), a = some x ∧ x.block < g ∧ w.cell? (x.add i) = some (.int .u8 z) ∧ 0 ≤ z ∧ z < 256
/-- a source of draws lies in block g -/
def SrcAt (w : World) (g : Nat) : Prop :=
  g < w.heap.size ∧ ∃ (a : Option Addr) (len cap at' : Nat) (mix size : Int), (w.cell? ⟨g, 0, none⟩ = some (.slice a len cap) ∧ w.cell? ⟨g, 1, none⟩ = some (.int .i64 at') ∧ w.cell? ⟨g, 2, none⟩ = some (.int .u64 mix) ∧ w.cell? ⟨g, 3, none⟩ = some (.int .i64 size)) ∧
    (0 ≤ mix ∧ mix < 18446744073709551616 ∧ 0 ≤ size ∧ size ≤ 12 ∧ len ≤ 1048576 ∧ at' ≤ len) ∧ (∀ o, w.frozen? ⟨g, o, none⟩ = false) ∧ BytesOf w g a len

theorem setCell_twice (W : World) (p : Addr) (u v : Value) : (W.setCell p u).setCell p v = W.setCell p v := by
  unfold World.setCell
  congr 1
  apply Array.ext
  · simp
  · intro i h1 h2
    simp only [Array.getElem_modify]
    split
    · have hi : i < W.heap.size := by simpa using h2
      cases W.heap[i] with
      | cells c e f => by_cases hs : p.spot.isSome = true <;> simp [hs]
      | _ => rfl
    · rfl
theorem xor_range (a b : Int) : 0 ≤ bits BinOp.xor IntKind.u64 a b ∧ bits BinOp.xor IntKind.u64 a b < 18446744073709551616 := by
  show 0 ≤ IntKind.u64.wrap _ ∧ IntKind.u64.wrap _ < _
  rw [IntKind.wrap_u64]
  exact ⟨Int.emod_nonneg _ (by decide), Int.emod_lt_of_pos _ (by decide)⟩
theorem draw_range (x most : Int) (h1 : 1 < most) (h2 : most < 9223372036854775808) : 0 ≤ wrap64 ((IntKind.u64.wrap x).tmod most) ∧ wrap64 ((IntKind.u64.wrap x).tmod most) < most := by
  rw [IntKind.wrap_u64]
  have h0 : 0 ≤ x % 18446744073709551616 := Int.emod_nonneg _ (by decide)
  generalize x % 18446744073709551616 = y at *
  rw [Int.tmod_eq_emod_of_nonneg h0]
  have a1 := Int.emod_nonneg y (b := most) (by omega)
  have a2 := Int.emod_lt_of_pos y (b := most) (by omega)
  generalize y % most = r at *
  unfold wrap64
  omega
theorem BytesOf.setCell {w : World} {g o : Nat} {a : Option Addr} {len : Nat} (hb : BytesOf w g a len) (v : Value) : BytesOf (w.setCell ⟨g, o, none⟩ v) g a len := by
  intro i hi
  obtain ⟨x, z, e, hx, hc, hz⟩ := hb i hi
  have hxb : (x.add i).block = x.block := by unfold Addr.add; split <;> rfl
  refine ⟨x, z, e, hx, ?_, hz⟩
  rw [World.cell?_setCell_far _ _ _ _ (by rw [hxb]; show g ≠ _; omega)]
  exact hc
theorem grown_setCell {w w' : World} {g o : Nat} (h : w.grownBy w' (some g)) (v : Value) : w.grownBy (w'.setCell ⟨g, o, none⟩ v) (some g) :=
  ⟨h.os, h.tape, h.output, by have := h.size; simp [World.setCell]; omega, fun j hj hne => by
    have hj' : j ≠ g := fun h => hne (by rw [h])
    rw [Below.heap_setCell _ _ _ _ hj']; exact h.block j hj hne⟩
theorem grown_refl (w : World) (r : Option Nat) : w.grownBy w r := ⟨rfl, rfl, rfl, Nat.le_refl _, fun _ _ _ => rfl⟩
/-- a source turned: its place moved on -/
theorem src_on {w : World} {g : Nat} {a : Option Addr} {len cap k k' : Nat} {mix size : Int} (hg : g < w.heap.size)
    (c0 : w.cell? ⟨g, 0, none⟩ = some (.slice a len cap)) (c1 : w.cell? ⟨g, 1, none⟩ = some (.int .i64 k)) (c2 : w.cell? ⟨g, 2, none⟩ = some (.int .u64 mix)) (c3 : w.cell? ⟨g, 3, none⟩ = some (.int .i64 size))
    (m0 : 0 ≤ mix) (m1 : mix < 18446744073709551616) (hs0 : 0 ≤ size) (hs1 : size ≤ 12) (hl : len ≤ 1048576) (hk : k' ≤ len) (hf : ∀ o, w.frozen? ⟨g, o, none⟩ = false) (hb : BytesOf w g a len) :
    SrcAt (w.setCell ⟨g, 1, none⟩ (.int .i64 k')) g := by
  refine ⟨by simpa [World.setCell] using hg, a, len, cap, k', mix, size, ⟨?_, ?_, ?_, ?_⟩, ⟨m0, m1, hs0, hs1, hl, hk⟩, ?_, hb.setCell _⟩
  · rw [World.cell?_setCell_other _ _ _ _ (by simp)]; exact c0
  · exact World.cell?_setCell_same _ _ _ c1
  · rw [World.cell?_setCell_other _ _ _ _ (by simp)]; exact c2
  · rw [World.cell?_setCell_other _ _ _ _ (by simp)]; exact c3
  · intro o; rw [World.frozen?_setCell]; exact hf o
/-- a source turned: its mix another one -/
theorem src_mix {w : World} {g : Nat} {M : Int} (h : SrcAt w g) (hM : 0 ≤ M ∧ M < 18446744073709551616) : SrcAt (w.setCell ⟨g, 2, none⟩ (.int .u64 M)) g := by
  obtain ⟨hg, a, len, cap, k, mix, size, ⟨c0, c1, c2, c3⟩, ⟨m0, m1, s0, s1, hl, hk⟩, hf, hb⟩ := h
  refine ⟨by simpa [World.setCell] using hg, a, len, cap, k, M, size, ⟨?_, ?_, ?_, ?_⟩, ⟨hM.1, hM.2, s0, s1, hl, hk⟩, ?_, hb.setCell _⟩
  · rw [World.cell?_setCell_other _ _ _ _ (by simp)]; exact c0
  · rw [World.cell?_setCell_other _ _ _ _ (by simp)]; exact c1
  · exact World.cell?_setCell_same _ _ _ c2
  · rw [World.cell?_setCell_other _ _ _ _ (by simp)]; exact c3
  · intro o; rw [World.frozen?_setCell]; exact hf o
theorem SrcAt.drew {w : World} {g : Nat} (h : SrcAt w g) : SrcAt w.drew g := h
theorem grown_drew {w w' : World} {r : Option Nat} (h : w.grownBy w' r) : w.grownBy w'.drew r := ⟨h.os, h.tape, h.output, h.size, h.block⟩

set_option maxRecDepth 10000 in
set_option maxHeartbeats 1000000 in
theorem srcN_any (g : Nat) (most : Int) (w : World) (hs : SrcAt w g) (hm : most < 9223372036854775808) :
    Calls Tryd.prog 33 #[.pointer (some ⟨g, 0, none⟩), .int .i64 most] w fun e w' => ∃ r : Int, e = .returned (.int .i64 r) ∧ 0 ≤ r ∧ (1 < most → r < most) ∧ (most ≤ 1 → r = 0) ∧ SrcAt w' g ∧ w.grownBy w' (some g) := by
  have HS : Hid (SrcAt w g) := hs
  obtain ⟨hg, a, len, cap, k, mix, size, ⟨c0, c1, c2, c3⟩, ⟨m0, m1, s0, s1, hl, hk⟩, hf, hb⟩ := hs
  have hcc : ∀ (W : World) (p : Addr) (u v : Value), (W.setCell p u).setCell p v = W.setCell p v := setCell_twice
  by_cases h1 : most ≤ 1
  · go_enter Tryd.func33, Tryd.ntmps33
    go_wp2
    go_ret
    exact ⟨0, rfl, Int.le_refl _, fun h => absurd h (by omega), fun _ => rfl, HS.out, ⟨rfl, rfl, rfl, Nat.le_refl _, fun _ _ _ => rfl⟩⟩
  have q1 : decide (most ≤ 1) = false := by rw [decide_eq_false_iff_not]; exact h1
  by_cases hlt : k < len
  · obtain ⟨x, z, rfl, hx, hz, z0, z1⟩ := hb k hlt
    have k0 : (0 : Int) ≤ k := by omega
    have k1 : (k : Int) < (len : Int) := by omega
    have HBy : Hid (BytesOf w g (some x) len) := hb
    clear hb
    go_enter Tryd.func33, Tryd.ntmps33
    go_wp2
    go_region
    go_wp2
    go_region
    go_wp2
    go_region
    go_wp2
    go_region
    go_wp2
    go_region
    go_wp2
    go_ret
    exact ⟨_, rfl, (draw_range _ most h1 hm).1, fun _ => (draw_range _ most h1 hm).2, fun h => absurd h (by omega),
      src_mix (src_on (k' := k + 1) hg c0 c1 c2 c3 m0 m1 s0 s1 hl (by omega) hf HBy.out) (xor_range _ _), grown_drew (grown_drew (grown_drew (grown_drew (grown_drew (grown_setCell (grown_setCell (grown_refl _ _) _) _)))))⟩
  · have HBy : Hid (BytesOf w g a len) := hb
    clear hb
    go_enter Tryd.func33, Tryd.ntmps33
    go_wp2
    go_region
    go_wp2
    go_region
    go_wp2
    go_region
    go_wp2
    go_region
    go_wp2
    go_ret
    exact ⟨_, rfl, (draw_range _ most h1 hm).1, fun _ => (draw_range _ most h1 hm).2, fun h => absurd h (by omega),
      src_mix HS.out (xor_range _ _), grown_drew (grown_drew (grown_drew (grown_drew (grown_setCell (grown_refl _ _) _))))⟩
end Go.Proofs.YthcpmbolnmlohaaDoor

/- A number's digits, as a plain function. -/
namespace Go.Proofs.YthcpmbolnmlohaaDoor
open Go.RowKit
/-- the digits of m, none of 0; f: more than enough rounds -/
def decF : Nat → Nat → List UInt8
  | 0, _ => []
  | f + 1, m => if m = 0 then [] else decF f (m / 10) ++ [UInt8.ofNat (48 + m % 10)]
def decA (m : Nat) : List UInt8 := decF m m
theorem decF_enough (f : Nat) : ∀ g m, m ≤ f → m ≤ g → decF f m = decF g m := by
  induction f with
  | zero =>
    intro g m hf _
    obtain rfl : m = 0 := by omega
    cases g with
    | zero => rfl
    | succ g => rw [decF, decF, if_pos rfl]
  | succ f ih =>
    intro g m hf hg
    cases g with
    | zero =>
      obtain rfl : m = 0 := by omega
      rw [decF, decF, if_pos rfl]
    | succ g =>
      rw [decF, decF]
      split
      · rfl
      · rw [ih g (m / 10) (by omega) (by omega)]
theorem decA_zero : decA 0 = [] := rfl
theorem decA_pos {m : Nat} (h : 0 < m) : decA m = decA (m / 10) ++ [UInt8.ofNat (48 + m % 10)] := by
  unfold decA
  cases m with
  | zero => omega
  | succ m => rw [decF, if_neg (by omega), decF_enough m ((m + 1) / 10) ((m + 1) / 10) (by omega) (by omega)]
theorem decA_len (k : Nat) : ∀ m, m < 10 ^ k → (decA m).length ≤ k := by
  induction k with
  | zero => intro m h; obtain rfl : m = 0 := by simpa using h
            exact Nat.le_refl _
  | succ k ih =>
    intro m h
    by_cases h0 : m = 0
    · subst h0; rw [decA_zero]; simp
    · rw [decA_pos (by omega)]
      have := ih (m / 10) (by rw [Nat.div_lt_iff_lt_mul (by omega)]; rw [Nat.pow_succ] at h; omega)
      simp; omega
theorem decA_twenty {m : Nat} (h : m ≤ 9223372036854775808) : (decA m).length ≤ 20 := decA_len 20 m (Nat.lt_of_le_of_lt h (by decide))
/-- the digits of a number, a sign ahead of one below 0 -/
def decB (n : Int) : ByteArray := if n = 0 then ⟨#[48]⟩ else if n < 0 then ⟨#[45]⟩ ++ ⟨(decA n.natAbs).toArray⟩ else ⟨(decA n.natAbs).toArray⟩
theorem dec_step {m m0 : Nat} {o : List UInt8} (h : decA m ++ o = decA m0) (hm : 0 < m) : decA (m / 10) ++ (UInt8.ofNat (48 + m % 10) :: o) = decA m0 := by
  rw [← h, decA_pos hm]; simp
theorem one_row (k : Nat) (w : World) (t : TypeId) (hk : k < 256) : RowAt (w.alloc (.cells #[.int .u8 (k : Int)] t)) w.heap.size t (Lib.byteCells [UInt8.ofNat k] ++ []) := by
  unfold RowAt; rw [heap_alloc_new]
  simp [Lib.byteCells]
  omega
theorem cons_text (b : UInt8) (o : List UInt8) : (⟨[b].toArray⟩ : ByteArray) ++ ⟨o.toArray⟩ = ⟨(b :: o).toArray⟩ := by
  apply ByteArray.ext; simp
end Go.Proofs.YthcpmbolnmlohaaDoor

/- The walk of the specification's l01Dec: a number's digits. -/
namespace Go.Proofs.YthcpmbolnmlohaaDoor
open Go.RowKit

set_option maxRecDepth 10000 in
set_option maxHeartbeats 400000 in
theorem specDec_zero (w : World) :
    Calls Tryd.prog 78 #[.int .i64 0] w fun e w' => e = .returned (.string (decB 0)) ∧ Below w.heap.size w w' := by
  go_enter Tryd.func78, Tryd.ntmps78
  go_wp2
  go_ret
  exact ⟨rfl, Below.refl _ _⟩

set_option maxRecDepth 10000 in
set_option maxHeartbeats 400000 in
theorem specDec_pos (n : Nat) (w : World) (hn : 0 < n) (hm : n ≤ 9223372036854775807) :
    Calls Tryd.prog 78 #[.int .i64 ((n : Int))] w fun e w' => e = .returned (.string (decB ((n : Int)))) ∧ Below w.heap.size w w' := by
  have q1 : (((n : Int)) == 0) = false := by rw [beq_eq_false_iff_ne]; omega
  have q2 : decide ((n : Int) < 0) = false := by rw [decide_eq_false_iff_not]; omega
  have HD : Hid (decB n = ⟨(decA n).toArray⟩) := by
    show _ = _
    rw [decB, if_neg (by omega), if_neg (by omega)]; rfl
  have hl := decA_twenty (m := n) (by omega)
  go_enter Tryd.func78, Tryd.ntmps78
  go_wp2
  go_loopw [0, 4, 5] (fun x o _ wr => ∃ (m : Nat) (z : Int) (l : List UInt8), m ≤ n ∧ x = .int .i64 z ∧ z = (m : Int) ∧ o = .string ⟨l.toArray⟩ ∧ Hid (decA m ++ l = decA n) ∧ Below w.heap.size w wr) (fun x _ _ _ => (intOf x).natAbs)
  case atStart => exact ⟨n, _, [], Nat.le_refl _, rfl, rfl, rfl, List.append_nil _, Below.refl _ _⟩
  case round =>
    obtain ⟨m, z, l, hmn, rfl, rfl, rfl, HL, hb⟩ := hrel
    have hll : l.length ≤ 20 := by
      have := congrArg List.length HL.out
      rw [List.length_append] at this; omega
    have hbs := hb.size
    by_cases h0 : 0 < m
    · have q3 : (((m : Int)) != 0) = true := by rw [bne_iff_ne]; omega
      have hsz : (⟨l.toArray⟩ : ByteArray).size ≤ 20 := hll
      have hr : RowAt (wr.alloc (.cells #[.int .u8 (48 + (m : Int) % 10)] 5)) wr.heap.size 5 (Lib.byteCells [UInt8.ofNat (48 + m % 10)] ++ []) := by
        rw [show (48 + (m : Int) % 10) = ((48 + m % 10 : Nat) : Int) by omega]; exact one_row _ wr _ (by omega)
      have HS : Hid (decA (m / 10) ++ (UInt8.ofNat (48 + m % 10) :: l) = decA n) := dec_step HL.out h0
      have HT : Hid ((⟨[UInt8.ofNat (48 + m % 10)].toArray⟩ : ByteArray) ++ ⟨l.toArray⟩ = ⟨(UInt8.ofNat (48 + m % 10) :: l).toArray⟩) := cons_text _ _
      have hone : (⟨[UInt8.ofNat (48 + m % 10)].toArray⟩ : ByteArray).size ≤ 1 := Nat.le_refl _
      have q4 : decide ((m : Int) % 10 < 0) = false := by rw [decide_eq_false_iff_not]; omega
      go_wp2_with fail
      rw [text_of_row (P := Tryd.prog) _ 22 9 5 Tryd.underlying22 Tryd.underlying5 Tryd.underlying9 wr.heap.size 1 1 5 _ _ hr rfl]
      clear hr
      generalize (⟨[UInt8.ofNat (48 + m % 10)].toArray⟩ : ByteArray) = b1 at *
      generalize (⟨l.toArray⟩ : ByteArray) = o1 at *
      have hb2 : Below w.heap.size w (wr.alloc (.cells #[.int .u8 (48 + (m : Int) % 10)] 5)) := hb.alloc hbs _
      go_wp2
      go_roundw
      case rel => exact ⟨m / 10, _, UInt8.ofNat (48 + m % 10) :: l, by omega, rfl, by omega, by rw [HT.out], HS, hb2⟩
      case measure => simp [intOf]; omega
    · obtain rfl : m = 0 := by omega
      have HE : Hid (l = decA n) := by
        show _ = _
        rw [← HL.out, decA_zero]; rfl
      go_wp2
      go_ret
      exact ⟨ret_text (by rw [HD.out, HE.out]), hb⟩

set_option maxRecDepth 10000 in
set_option maxHeartbeats 400000 in
theorem specDec_neg (n : Nat) (w : World) (hn : 0 < n) (hm : n ≤ 9223372036854775808) :
    Calls Tryd.prog 78 #[.int .i64 (-(n : Int))] w fun e w' => e = .returned (.string (decB (-(n : Int)))) ∧ Below w.heap.size w w' := by
  have q1 : ((-(n : Int)) == 0) = false := by rw [beq_eq_false_iff_ne]; omega
  have q2 : -(n : Int) < 0 := by omega
  have HD : Hid (decB (-(n : Int)) = ⟨#[45]⟩ ++ ⟨(decA n).toArray⟩) := by
    show _ = _
    rw [decB, if_neg (by omega), if_pos (by omega), show (-(n : Int)).natAbs = n by omega]
  have hl := decA_twenty (m := n) (by omega)
  go_enter Tryd.func78, Tryd.ntmps78
  go_wp2
  go_loopw [0, 4, 5] (fun x o _ wr => ∃ (m : Nat) (z : Int) (l : List UInt8), m ≤ n ∧ x = .int .i64 z ∧ z = -(m : Int) ∧ o = .string ⟨l.toArray⟩ ∧ Hid (decA m ++ l = decA n) ∧ Below w.heap.size w wr) (fun x _ _ _ => (intOf x).natAbs)
  case atStart => exact ⟨n, _, [], Nat.le_refl _, rfl, rfl, rfl, List.append_nil _, Below.refl _ _⟩
  case round =>
    obtain ⟨m, z, l, hmn, rfl, rfl, rfl, HL, hb⟩ := hrel
    have hll : l.length ≤ 20 := by
      have := congrArg List.length HL.out
      rw [List.length_append] at this; omega
    have hbs := hb.size
    by_cases h0 : 0 < m
    · have q3 : ((-(m : Int)) != 0) = true := by rw [bne_iff_ne]; omega
      have hsz : (⟨l.toArray⟩ : ByteArray).size ≤ 20 := hll
      by_cases h10 : 0 < m % 10
      · have q5 : (0 : Int) < (m : Int) % 10 := by omega
        have hr : RowAt (wr.alloc (.cells #[.int .u8 (48 + (m : Int) % 10)] 5)) wr.heap.size 5 (Lib.byteCells [UInt8.ofNat (48 + m % 10)] ++ []) := by
          rw [show (48 + (m : Int) % 10 : Int) = ((48 + m % 10 : Nat) : Int) by omega]; exact one_row _ wr _ (by omega)
        have hb2 : Below w.heap.size w (wr.alloc (.cells #[.int .u8 (48 + (m : Int) % 10)] 5)) := hb.alloc hbs _
        have HS : Hid (decA (m / 10) ++ (UInt8.ofNat (48 + m % 10) :: l) = decA n) := dec_step HL.out h0
        have HT : Hid ((⟨[UInt8.ofNat (48 + m % 10)].toArray⟩ : ByteArray) ++ ⟨l.toArray⟩ = ⟨(UInt8.ofNat (48 + m % 10) :: l).toArray⟩) := cons_text _ _
        have hone : (⟨[UInt8.ofNat (48 + m % 10)].toArray⟩ : ByteArray).size ≤ 1 := Nat.le_refl _
        go_wp2_with fail
        rw [text_of_row (P := Tryd.prog) _ 22 9 5 Tryd.underlying22 Tryd.underlying5 Tryd.underlying9 wr.heap.size 1 1 5 _ _ hr rfl]
        clear hr
        generalize (⟨[UInt8.ofNat (48 + m % 10)].toArray⟩ : ByteArray) = b1 at *
        generalize (⟨l.toArray⟩ : ByteArray) = o1 at *
        go_wp2
        go_roundw
        case rel => exact ⟨m / 10, _, UInt8.ofNat (48 + m % 10) :: l, by omega, rfl, by omega, by rw [HT.out], HS, hb2⟩
        case measure => simp [intOf]; omega
      · have e10 : (m : Int) % 10 = 0 := by omega
        have q5 : decide ((0 : Int) < (m : Int) % 10) = false := by rw [decide_eq_false_iff_not]; omega
        have hr : RowAt (wr.alloc (.cells #[.int .u8 (48)] 5)) wr.heap.size 5 (Lib.byteCells [UInt8.ofNat (48 + m % 10)] ++ []) := by
          rw [show (48 : Int) = ((48 + m % 10 : Nat) : Int) by omega]; exact one_row _ wr _ (by omega)
        have hb2 : Below w.heap.size w (wr.alloc (.cells #[.int .u8 (48)] 5)) := hb.alloc hbs _
        have HS : Hid (decA (m / 10) ++ (UInt8.ofNat (48 + m % 10) :: l) = decA n) := dec_step HL.out h0
        have HT : Hid ((⟨[UInt8.ofNat (48 + m % 10)].toArray⟩ : ByteArray) ++ ⟨l.toArray⟩ = ⟨(UInt8.ofNat (48 + m % 10) :: l).toArray⟩) := cons_text _ _
        have hone : (⟨[UInt8.ofNat (48 + m % 10)].toArray⟩ : ByteArray).size ≤ 1 := Nat.le_refl _
        go_wp2_with fail
        rw [text_of_row (P := Tryd.prog) _ 22 9 5 Tryd.underlying22 Tryd.underlying5 Tryd.underlying9 wr.heap.size 1 1 5 _ _ hr rfl]
        clear hr
        generalize (⟨[UInt8.ofNat (48 + m % 10)].toArray⟩ : ByteArray) = b1 at *
        generalize (⟨l.toArray⟩ : ByteArray) = o1 at *
        go_wp2
        go_roundw
        case rel => exact ⟨m / 10, _, UInt8.ofNat (48 + m % 10) :: l, by omega, rfl, by omega, by rw [HT.out], HS, hb2⟩
        case measure => simp [intOf]; omega
    · obtain rfl : m = 0 := by omega
      have HE : Hid (l = decA n) := by
        show _ = _
        rw [← HL.out, decA_zero]; rfl
      have hsz : (⟨l.toArray⟩ : ByteArray).size ≤ 20 := hll
      have HD2 : Hid (decB (-(n : Int)) = ⟨#[45]⟩ ++ ⟨l.toArray⟩) := by
        show _ = _
        rw [HD.out, HE.out]
      clear hll
      generalize (⟨l.toArray⟩ : ByteArray) = o1 at *
      go_wp2
      go_ret
      exact ⟨ret_text HD2.out.symm, hb⟩

end Go.Proofs.YthcpmbolnmlohaaDoor

/- Rows of texts that a law reads, marks and reads again; the marks' texts. -/
namespace Go.Proofs.YthcpmbolnmlohaaDoor
open Go.RowKit

/-- the mark of a number above 0 -/
def markT (k : Nat) : ByteArray := ⟨#[109]⟩ ++ ⟨(decA k).toArray⟩

/-- a slice of n texts, f of each place, that lies from block B on -/
def SliceS (w : World) (B : Nat) (v : Value) (n : Nat) (f : Nat → ByteArray) : Prop :=
  ∃ p cap, v = .slice p n cap ∧ (0 < n → ∃ g, p = some ⟨g, 0, none⟩ ∧ B ≤ g ∧ g < w.heap.size ∧ ∀ j, j < n → w.cell? ⟨g, j, none⟩ = some (.string (f j)) ∧ w.frozen? ⟨g, j, none⟩ = false)
theorem SliceS.below {w w' : World} {B n : Nat} {v : Value} {f : Nat → ByteArray} (h : SliceS w B v n f) (hb : Below w.heap.size w w') : SliceS w' B v n f := by
  obtain ⟨p, cap, rfl, h⟩ := h
  refine ⟨p, cap, rfl, fun hn => ?_⟩
  obtain ⟨g, rfl, hB, hg, hc⟩ := h hn
  have hs := hb.size
  refine ⟨g, rfl, hB, by omega, fun j hj => ⟨?_, ?_⟩⟩
  · rw [(bcell hb).1 _ _ hg]; exact (hc j hj).1
  · rw [(bcell hb).2 _ _ hg]; exact (hc j hj).2
/-- a row below B stays while rows from B on are written -/
theorem SliceS.kept {w w' : World} {B B' n : Nat} {v : Value} {f : Nat → ByteArray} (h : SliceS w B v n f) (hb : Below B' w w') (hlt : ∀ g cap m, v = .slice (some ⟨g, 0, none⟩) m cap → g < B') : SliceS w' B v n f := by
  obtain ⟨p, cap, rfl, h⟩ := h
  refine ⟨p, cap, rfl, fun hn => ?_⟩
  obtain ⟨g, rfl, hB, hg, hc⟩ := h hn
  have hs := hb.size
  have hl := hlt g cap n rfl
  refine ⟨g, rfl, hB, by omega, fun j hj => ⟨?_, ?_⟩⟩
  · rw [hb.cell (p := ⟨g, j, none⟩) hl]; exact (hc j hj).1
  · rw [hb.frozen (p := ⟨g, j, none⟩) hl]; exact (hc j hj).2
theorem SliceS.lt {w : World} {B n : Nat} {v : Value} {f : Nat → ByteArray} (h : SliceS w B v (n + 1) f) : ∀ g cap m, v = .slice (some ⟨g, 0, none⟩) m cap → g < w.heap.size := by
  obtain ⟨p, cap, rfl, h⟩ := h
  obtain ⟨g, rfl, hB, hg, hc⟩ := h (by omega)
  intro g' cap' m e
  injection e with e1
  injection e1 with e1
  injection e1 with e1
  omega
theorem SliceS.mono {w : World} {B B' n : Nat} {v : Value} {f : Nat → ByteArray} (h : SliceS w B v n f) (hB : B' ≤ B) : SliceS w B' v n f := by
  obtain ⟨p, cap, rfl, h⟩ := h
  refine ⟨p, cap, rfl, fun hn => ?_⟩
  obtain ⟨g, rfl, h1, h2⟩ := h hn
  exact ⟨g, rfl, by omega, h2⟩

set_option maxRecDepth 10000 in
set_option maxHeartbeats 400000 in
theorem markText_any (n : Nat) (w : World) (hn : 0 < n) (hm : n ≤ 9223372036854775807) :
    Calls Tryd.prog 88 #[.int .i64 (n : Int)] w fun e w' => e = .returned (.string (markT n)) ∧ Below w.heap.size w w' := by
  have q2 : decide (n = 0) = false := by rw [decide_eq_false_iff_not]; omega
  have q3 : ¬ n = 0 := by omega
  have hl := decA_twenty (m := n) (by omega)
  go_enter Tryd.func88, Tryd.ntmps88
  go_wp2
  go_loopw [0, 3] (fun x o wr => ∃ (m : Nat) (z : Int) (l : List UInt8), m ≤ n ∧ x = .int .i64 z ∧ z = (m : Int) ∧ o = .string ⟨l.toArray⟩ ∧ Hid (decA m ++ l = decA n) ∧ Below w.heap.size w wr) (fun x _ _ => (intOf x).natAbs)
  case atStart => exact ⟨n, _, [], Nat.le_refl _, rfl, rfl, rfl, List.append_nil _, Below.refl _ _⟩
  case round =>
    obtain ⟨m, z, l, hmn, rfl, rfl, rfl, HL, hb⟩ := hrel
    have hll : l.length ≤ 20 := by
      have := congrArg List.length HL.out
      rw [List.length_append] at this; omega
    have hbs := hb.size
    by_cases h0 : 0 < m
    · have hsz : (⟨l.toArray⟩ : ByteArray).size ≤ 20 := hll
      have hr : RowAt (wr.alloc (.cells #[.int .u8 (48 + (m : Int) % 10)] 5)) wr.heap.size 5 (Lib.byteCells [UInt8.ofNat (48 + m % 10)] ++ []) := by
        rw [show (48 + (m : Int) % 10) = ((48 + m % 10 : Nat) : Int) by omega]; exact one_row _ wr _ (by omega)
      have HS : Hid (decA (m / 10) ++ (UInt8.ofNat (48 + m % 10) :: l) = decA n) := dec_step HL.out h0
      have HT : Hid ((⟨[UInt8.ofNat (48 + m % 10)].toArray⟩ : ByteArray) ++ ⟨l.toArray⟩ = ⟨(UInt8.ofNat (48 + m % 10) :: l).toArray⟩) := cons_text _ _
      have hone : (⟨[UInt8.ofNat (48 + m % 10)].toArray⟩ : ByteArray).size ≤ 1 := Nat.le_refl _
      go_wp2_with fail
      rw [text_of_row (P := Tryd.prog) _ 22 9 5 Tryd.underlying22 Tryd.underlying5 Tryd.underlying9 wr.heap.size 1 1 5 _ _ hr rfl]
      clear hr
      generalize (⟨[UInt8.ofNat (48 + m % 10)].toArray⟩ : ByteArray) = b1 at *
      generalize (⟨l.toArray⟩ : ByteArray) = o1 at *
      have hb2 : Below w.heap.size w (wr.alloc (.cells #[.int .u8 (48 + (m : Int) % 10)] 5)) := hb.alloc hbs _
      go_wp2
      go_roundw
      case rel => exact ⟨m / 10, _, UInt8.ofNat (48 + m % 10) :: l, by omega, rfl, by omega, by rw [HT.out], HS, hb2⟩
      case measure => simp [intOf]; omega
    · obtain rfl : m = 0 := by omega
      have HE : Hid (markT n = ⟨#[109]⟩ ++ ⟨l.toArray⟩) := by
        show _ = _
        rw [markT, ← HL.out, decA_zero]; rfl
      have hsz : (⟨l.toArray⟩ : ByteArray).size ≤ 20 := hll
      clear hll
      generalize (⟨l.toArray⟩ : ByteArray) = o1 at *
      go_wp2
      go_ret
      exact ⟨ret_text HE.out.symm, hb⟩
end Go.Proofs.YthcpmbolnmlohaaDoor

/- More of the specification's source of draws: one of so many, one of some texts, a source from bytes. -/
namespace Go.Proofs.YthcpmbolnmlohaaDoor
open Go.RowKit

set_option maxRecDepth 10000 in
set_option maxHeartbeats 400000 in
theorem srcOne_any (g : Nat) (most : Int) (w : World) (hs : SrcAt w g) (hm : most < 9223372036854775808) :
    Calls Tryd.prog 31 #[.pointer (some ⟨g, 0, none⟩), .int .i64 most] w fun e w' => (∃ b : Bool, e = .returned (.bool b)) ∧ SrcAt w' g ∧ w.grownBy w' (some g) := by
  have HN : Hid (Calls Tryd.prog 33 #[.pointer (some ⟨g, 0, none⟩), .int .i64 most] w fun e w' => ∃ r : Int, e = .returned (.int .i64 r) ∧ 0 ≤ r ∧ (1 < most → r < most) ∧ (most ≤ 1 → r = 0) ∧ SrcAt w' g ∧ w.grownBy w' (some g)) := srcN_any g most w hs hm
  clear hs
  go_enter Tryd.func31, Tryd.ntmps31
  go_wp2_with fail
  refine HN.out.mono ?_
  rintro e w1 ⟨r, rfl, _, _, _, h1, h2⟩
  go_wp2
  go_ret
  exact ⟨⟨_, rfl⟩, h1, h2⟩

/-- a row of texts in block h -/
def TextsAt (w : World) (h n : Nat) (f : Nat → ByteArray) : Prop := ∀ j, j < n → w.cell? ⟨h, j, none⟩ = some (.string (f j))
theorem TextsAt.kept {w w' : World} {h n : Nat} {f : Nat → ByteArray} {r : Option Nat} (ht : TextsAt w h n f) (hg : w.grownBy w' r) (hne : some h ≠ r) : TextsAt w' h n f :=
  fun j hj => hg.cell (a := ⟨h, j, none⟩) (ht j hj) hne

set_option maxRecDepth 10000 in
set_option maxHeartbeats 400000 in
theorem srcPick_any (g h n cap : Nat) (f : Nat → ByteArray) (w : World) (hs : SrcAt w g) (ht : TextsAt w h (n + 2) f) (hne : h ≠ g) (hn : n ≤ 1048576) :
    Calls Tryd.prog 35 #[.pointer (some ⟨g, 0, none⟩), .slice (some ⟨h, 0, none⟩) (n + 2) cap] w fun e w' => (∃ j, j < n + 2 ∧ e = .returned (.string (f j))) ∧ SrcAt w' g ∧ w.grownBy w' (some g) := by
  have HN : Hid (Calls Tryd.prog 33 #[.pointer (some ⟨g, 0, none⟩), .int .i64 ((n : Int) + 2)] w fun e w' => ∃ r : Int, e = .returned (.int .i64 r) ∧ 0 ≤ r ∧ (1 < (n : Int) + 2 → r < (n : Int) + 2) ∧ ((n : Int) + 2 ≤ 1 → r = 0) ∧ SrcAt w' g ∧ w.grownBy w' (some g)) := srcN_any g _ w hs (by omega)
  have HT : Hid (TextsAt w h (n + 2) f) := ht
  clear hs ht
  go_enter Tryd.func35, Tryd.ntmps35
  go_wp2_with fail
  refine HN.out.mono ?_
  rintro e w1 ⟨r, rfl, r0, r1, _, h1, h2⟩
  have r2 := r1 (by omega)
  obtain ⟨j, rfl⟩ : ∃ j : Nat, r = j := ⟨r.toNat, by omega⟩
  have hj : j < n + 2 := by omega
  have hc := HT.out.kept h2 (by simpa using hne) j hj
  clear r1
  go_wp2
  go_ret
  exact ⟨⟨j, hj, rfl⟩, h1, h2⟩

/-- the bytes that a source is made from -/
def CodeRow (w : World) (a : Option Addr) (len : Nat) : Prop := ∀ i, i < len → ∃ (x : Addr) (z : Int), a = some x ∧ x.block < w.heap.size ∧ w.cell? (x.add i) = some (.int .u8 z) ∧ 0 ≤ z ∧ z < 256
theorem add_block (x : Addr) (i : Nat) : (x.add i).block = x.block := by unfold Addr.add; split <;> rfl
theorem CodeRow.bytes {w w' : World} {a : Option Addr} {len : Nat} (h : CodeRow w a len) (hb : Below w.heap.size w w') : BytesOf w' w.heap.size a len := by
  intro i hi
  obtain ⟨x, z, e, hx, hc, hz⟩ := h i hi
  exact ⟨x, z, e, by omega, by rw [hb.cell (p := x.add i) (by rw [add_block]; exact hx)]; exact hc, hz⟩

theorem wrap_range (x : Int) : 0 ≤ IntKind.u64.wrap x ∧ IntKind.u64.wrap x < 18446744073709551616 := by
  rw [IntKind.wrap_u64]
  exact ⟨Int.emod_nonneg _ (by decide), Int.emod_lt_of_pos _ (by decide)⟩
theorem src_size {w : World} {g : Nat} {a : Option Addr} {len cap : Nat} {mix size size' : Int} (hg : g < w.heap.size)
    (c0 : w.cell? ⟨g, 0, none⟩ = some (.slice a len cap)) (c1 : w.cell? ⟨g, 1, none⟩ = some (.int .i64 0)) (c2 : w.cell? ⟨g, 2, none⟩ = some (.int .u64 mix)) (c3 : w.cell? ⟨g, 3, none⟩ = some (.int .i64 size))
    (m0 : 0 ≤ mix) (m1 : mix < 18446744073709551616) (hs0 : 0 ≤ size') (hs1 : size' ≤ 12) (hl : len ≤ 1048576) (hf : ∀ o, w.frozen? ⟨g, o, none⟩ = false) (hb : BytesOf w g a len) :
    SrcAt (w.setCell ⟨g, 3, none⟩ (.int .i64 size')) g := by
  refine ⟨by simpa [World.setCell] using hg, a, len, cap, 0, mix, size', ⟨?_, ?_, ?_, ?_⟩, ⟨m0, m1, hs0, hs1, hl, Nat.zero_le _⟩, ?_, hb.setCell _⟩
  · rw [World.cell?_setCell_other _ _ _ _ (by simp)]; exact c0
  · rw [World.cell?_setCell_other _ _ _ _ (by simp)]; exact c1
  · rw [World.cell?_setCell_other _ _ _ _ (by simp)]; exact c2
  · exact World.cell?_setCell_same _ _ _ c3
  · intro o; rw [World.frozen?_setCell]; exact hf o

set_option maxRecDepth 10000 in
set_option maxHeartbeats 1000000 in
theorem source_any (a : Option Addr) (len cap : Nat) (w : World) (hr : CodeRow w a len) (hl : len ≤ 1048576) :
    Calls Tryd.prog 30 #[.slice a len cap] w fun e w' => e = .returned (.pointer (some ⟨w.heap.size, 0, none⟩)) ∧ SrcAt w' w.heap.size ∧ Below w.heap.size w w' := by
  have HR : Hid (CodeRow w a len) := hr
  clear hr
  have hcc : ∀ (W : World) (p : Addr) (u v : Value), (W.setCell p u).setCell p v = W.setCell p v := setCell_twice
  go_enter Tryd.func30, Tryd.ntmps30
  go_wp2
  go_loopw [4] (fun i wr => ∃ (k : Nat) (mix : Int), k ≤ len ∧ i = .int .i64 k ∧ w.heap.size < wr.heap.size ∧ (wr.cell? ⟨w.heap.size, 0, none⟩ = some (.slice a len cap) ∧ wr.cell? ⟨w.heap.size, 1, none⟩ = some (.int .i64 0) ∧ wr.cell? ⟨w.heap.size, 2, none⟩ = some (.int .u64 mix) ∧ wr.cell? ⟨w.heap.size, 3, none⟩ = some (.int .i64 0)) ∧ 0 ≤ mix ∧ mix < 18446744073709551616 ∧ (∀ o, wr.frozen? ⟨w.heap.size, o, none⟩ = false) ∧ Below w.heap.size w wr) (fun i _ => len - (intOf i).toNat)
  case atStart => exact ⟨0, 88172645463325252, by omega, rfl, by simp, ⟨by simp, by simp, by simp, by simp⟩, by decide, by decide, by simp, (Below.refl _ _).alloc (Nat.le_refl _) _⟩
  case round =>
    obtain ⟨k, mix, hk, rfl, hz, ⟨c0, c1, c2, c3⟩, m0, m1, hf, hb⟩ := hrel
    have HBy : Hid (BytesOf wr w.heap.size a len) := HR.out.bytes hb
    have HB : Hid (Below w.heap.size w wr) := hb
    clear hb
    by_cases hgo : k < len ∧ k < 64
    · obtain ⟨h1, h2⟩ := hgo
      obtain ⟨x, z, rfl, hx, hzc, z0, z1⟩ := HBy.out k h1
      have k0 : (0 : Int) ≤ k := by omega
      have k1 : (k : Int) < (len : Int) := by omega
      have q2 : (k : Int) < 64 := by omega
      go_wp2
      go_region
      go_wp2
      go_roundw
      case rel =>
        refine ⟨k + 1, IntKind.u64.wrap (bits BinOp.xor IntKind.u64 mix z * 1099511628211), by omega, by go_num, ?_, ⟨?_, ?_, ?_, ?_⟩, ?_, ?_, ?_, ?_⟩
        · simpa [World.setCell] using hz
        · exact (World.cell?_setCell_other _ _ _ _ (by simp)).trans c0
        · exact (World.cell?_setCell_other _ _ _ _ (by simp)).trans c1
        · exact World.cell?_setCell_same _ _ _ c2
        · exact (World.cell?_setCell_other _ _ _ _ (by simp)).trans c3
        · exact (wrap_range _).1
        · exact (wrap_range _).2
        · intro o
          exact (World.frozen?_setCell _ _ _ _).trans (hf o)
        · exact (HB.out.setCell (Nat.le_refl _) _).drew
      case measure => simp [intOf]; omega
    · have hq : (¬ k < len ∧ decide (k < len) = false) ∨ (k < len ∧ ¬ k < 64 ∧ decide (k < 64) = false ∧ decide ((k : Int) < 64) = false) := by
        by_cases h : k < len
        · exact .inr ⟨h, by omega, by rw [decide_eq_false_iff_not]; omega, by rw [decide_eq_false_iff_not]; omega⟩
        · exact .inl ⟨h, by rw [decide_eq_false_iff_not]; omega⟩
      have hd0 : (0 : Int) ≤ (len : Int) / 20 := by omega
      by_cases h12 : (12 : Int) < (len : Int) / 20
      · rcases hq with ⟨q1, q1'⟩ | ⟨q1, q2, q2', q2''⟩
        all_goals
          go_wp2
          go_ret
          exact ⟨rfl, src_size hz c0 c1 c2 c3 m0 m1 (by decide) (by decide) hl hf HBy.out, HB.out.setCell (Nat.le_refl _) _⟩
      · have q3 : decide ((12 : Int) < (len : Int) / 20) = false := by rw [decide_eq_false_iff_not]; exact h12
        rcases hq with ⟨q1, q1'⟩ | ⟨q1, q2, q2', q2''⟩
        all_goals
          go_wp2
          go_ret
          exact ⟨rfl, src_size hz c0 c1 c2 c3 m0 m1 hd0 (by omega) hl hf HBy.out, HB.out.setCell (Nat.le_refl _) _⟩
end Go.Proofs.YthcpmbolnmlohaaDoor

/- What a label and a path of a url are, as plain functions, with the facts that walks close with. -/
namespace Go.Proofs.YthcpmbolnmlohaaDoor
/-- may the byte stand in a label? -/
def labC (c : Nat) : Bool := decide ((97 ≤ c ∧ c ≤ 122) ∨ (48 ≤ c ∧ c ≤ 57) ∨ c = 45)
def labelB (t : ByteArray) : Bool := decide (1 ≤ t.size ∧ t.size ≤ 12 ∧ (∀ h : 0 < t.size, ¬ t[0].toNat = 45) ∧ (∀ h : t.size - 1 < t.size, ¬ t[t.size - 1].toNat = 45) ∧ ∀ i (h : i < t.size), labC t[i].toNat = true)
theorem labelB_size {t : ByteArray} (h : t.size < 1 ∨ 12 < t.size) : labelB t = false := by
  unfold labelB; rw [decide_eq_false_iff_not]; rintro ⟨a, b, _⟩; omega
theorem labelB_first {t : ByteArray} (h : 0 < t.size) (hc : t[0].toNat = 45) : labelB t = false := by
  unfold labelB; rw [decide_eq_false_iff_not]; rintro ⟨_, _, a, _⟩; exact a h hc
theorem labelB_last {t : ByteArray} (h : t.size - 1 < t.size) (hc : t[t.size - 1].toNat = 45) : labelB t = false := by
  unfold labelB; rw [decide_eq_false_iff_not]; rintro ⟨_, _, _, a, _⟩; exact a h hc
theorem labelB_at {t : ByteArray} (k : Nat) (h : k < t.size) (hk : labC t[k].toNat = false) : labelB t = false := by
  unfold labelB; rw [decide_eq_false_iff_not]; rintro ⟨_, _, _, _, c⟩; rw [c k h] at hk; cases hk
theorem labelB_true {t : ByteArray} (h1 : 1 ≤ t.size) (h2 : t.size ≤ 12) (h3 : ∀ h : 0 < t.size, ¬ t[0].toNat = 45) (h4 : ∀ h : t.size - 1 < t.size, ¬ t[t.size - 1].toNat = 45)
    (h : ∀ i (h : i < t.size), labC t[i].toNat = true) : labelB t = true := by
  unfold labelB; rw [decide_eq_true_iff]; exact ⟨h1, h2, h3, h4, h⟩
theorem labC_yes {c : Nat} (h : (97 ≤ c ∧ c ≤ 122) ∨ (48 ≤ c ∧ c ≤ 57) ∨ c = 45) : labC c = true := by unfold labC; rw [decide_eq_true_iff]; exact h
theorem labC_no {c : Nat} (h : ¬ ((97 ≤ c ∧ c ≤ 122) ∨ (48 ≤ c ∧ c ≤ 57) ∨ c = 45)) : labC c = false := by unfold labC; rw [decide_eq_false_iff_not]; exact h
theorem all_succ {t : ByteArray} {P : Nat → Bool} {k : Nat} (hr : ∀ i (h : i < t.size), i < k → P t[i].toNat = true) (hk : k < t.size) (ho : P t[k].toNat = true) :
    ∀ i (h : i < t.size), i < k + 1 → P t[i].toNat = true := by
  intro i h hi
  by_cases e : i = k
  · subst e; exact ho
  · exact hr i h (by omega)
/-- may the byte stand in a path? -/
def pathC (c : Nat) : Bool := decide (33 ≤ c ∧ c ≤ 126 ∧ ¬ c = 63 ∧ ¬ c = 35 ∧ ¬ c = 59)
def pathB (t : ByteArray) : Bool := decide (1 ≤ t.size ∧ t.size ≤ 40 ∧ (∀ h : 0 < t.size, t[0].toNat = 47) ∧ ∀ i (h : i < t.size), pathC t[i].toNat = true)
theorem pathB_size {t : ByteArray} (h : t.size < 1 ∨ 40 < t.size) : pathB t = false := by
  unfold pathB; rw [decide_eq_false_iff_not]; rintro ⟨a, b, _⟩; omega
theorem pathB_first {t : ByteArray} (h : 0 < t.size) (hc : ¬ t[0].toNat = 47) : pathB t = false := by
  unfold pathB; rw [decide_eq_false_iff_not]; rintro ⟨_, _, a, _⟩; exact hc (a h)
theorem pathB_at {t : ByteArray} (k : Nat) (h : k < t.size) (hk : pathC t[k].toNat = false) : pathB t = false := by
  unfold pathB; rw [decide_eq_false_iff_not]; rintro ⟨_, _, _, c⟩; rw [c k h] at hk; cases hk
theorem pathB_true {t : ByteArray} (h1 : 1 ≤ t.size) (h2 : t.size ≤ 40) (h3 : ∀ h : 0 < t.size, t[0].toNat = 47) (h : ∀ i (h : i < t.size), pathC t[i].toNat = true) : pathB t = true := by
  unfold pathB; rw [decide_eq_true_iff]; exact ⟨h1, h2, h3, h⟩
theorem pathC_yes {c : Nat} (h : 33 ≤ c ∧ c ≤ 126 ∧ ¬ c = 63 ∧ ¬ c = 35 ∧ ¬ c = 59) : pathC c = true := by unfold pathC; rw [decide_eq_true_iff]; exact h
theorem pathC_no {c : Nat} (h : ¬ (33 ≤ c ∧ c ≤ 126 ∧ ¬ c = 63 ∧ ¬ c = 35 ∧ ¬ c = 59)) : pathC c = false := by unfold pathC; rw [decide_eq_false_iff_not]; exact h
end Go.Proofs.YthcpmbolnmlohaaDoor

/- A text cut at a byte, as a plain function that goes byte by byte; what a host's labels are. -/
namespace Go.Proofs.YthcpmbolnmlohaaDoor
/-- the cuts among the first i bytes, and where the last one ends -/
def splitTo (s : ByteArray) (c : Nat) : Nat → List ByteArray × Nat
  | 0 => ([], 0)
  | i + 1 => if h : i < s.size then (if s[i].toNat = c then ((splitTo s c i).1 ++ [s.extract (splitTo s c i).2 i], i + 1) else splitTo s c i) else splitTo s c i
def splitB (s : ByteArray) (c : Nat) : List ByteArray := (splitTo s c s.size).1 ++ [s.extract (splitTo s c s.size).2 s.size]
theorem splitTo_hit {s : ByteArray} {c i : Nat} (h : i < s.size) (hc : s[i].toNat = c) : splitTo s c (i + 1) = ((splitTo s c i).1 ++ [s.extract (splitTo s c i).2 i], i + 1) := by
  rw [splitTo, dif_pos h, if_pos hc]
theorem splitTo_miss {s : ByteArray} {c i : Nat} (h : i < s.size) (hc : ¬ s[i].toNat = c) : splitTo s c (i + 1) = splitTo s c i := by
  rw [splitTo, dif_pos h, if_neg hc]
theorem splitTo_le (s : ByteArray) (c i : Nat) : (splitTo s c i).2 ≤ i ∧ (splitTo s c i).1.length ≤ i := by
  induction i with
  | zero => exact ⟨Nat.le_refl _, Nat.le_refl _⟩
  | succ i ih =>
    rw [splitTo]
    split
    · split
      · exact ⟨Nat.le_refl _, by simp; omega⟩
      · exact ⟨by omega, by omega⟩
    · exact ⟨by omega, by omega⟩
theorem splitB_len (s : ByteArray) (c : Nat) : (splitB s c).length ≤ s.size + 1 := by
  have := (splitTo_le s c s.size).2
  unfold splitB; simp; omega
/-- a right host -/
def hostB (s : ByteArray) : Bool := decide (s.size ≤ 100) && (splitB s 46).all labelB && decide ((splitB s 46).length ≤ 6)
theorem hostB_size {s : ByteArray} (h : 100 < s.size) : hostB s = false := by
  unfold hostB; rw [decide_eq_false (by omega)]; rfl
theorem hostB_at {s : ByteArray} (k : Nat) (h : k < (splitB s 46).length) (hl : labelB ((splitB s 46)[k]) = false) : hostB s = false := by
  have : (splitB s 46).all labelB = false := by
    rw [List.all_eq_false]
    exact ⟨_, List.getElem_mem h, by simp [hl]⟩
  unfold hostB; rw [this]; simp
theorem hostB_all {s : ByteArray} (hs : s.size ≤ 100) (h : ∀ k (h : k < (splitB s 46).length), labelB ((splitB s 46)[k]) = true) : hostB s = decide ((splitB s 46).length ≤ 6) := by
  have : (splitB s 46).all labelB = true := by
    rw [List.all_eq_true]
    intro x hx
    obtain ⟨k, hk, rfl⟩ := List.getElem_of_mem hx
    exact h k hk
  unfold hostB; rw [this, decide_eq_true hs]; rfl
theorem splitTo_little (s : ByteArray) (c : Nat) : ∀ i, ∀ x ∈ (splitTo s c i).1, x.size ≤ s.size
  | 0, x, h => by cases h
  | i + 1, x, h => by
    rw [splitTo] at h
    split at h
    · split at h
      · rw [List.mem_append] at h
        rcases h with h | h
        · exact splitTo_little s c i x h
        · rw [List.mem_singleton] at h
          rw [h, ByteArray.size_extract]; omega
      · exact splitTo_little s c i x h
    · exact splitTo_little s c i x h
theorem splitB_small (s : ByteArray) (c : Nat) : ∀ x ∈ splitB s c, x.size ≤ s.size := by
  intro x h
  unfold splitB at h
  rw [List.mem_append, List.mem_singleton] at h
  rcases h with h | h
  · exact splitTo_little s c _ x h
  · rw [h, ByteArray.size_extract]; omega
end Go.Proofs.YthcpmbolnmlohaaDoor

/- The walks of the specification's l02Label and l02Path. -/
namespace Go.Proofs.YthcpmbolnmlohaaDoor
open Go.RowKit

set_option maxRecDepth 10000 in
set_option maxHeartbeats 400000 in
theorem specLabel_any (t : ByteArray) (w : World) :
    Calls Tryd.prog 75 #[.string t] w fun e w' => e = .returned (.bool (labelB t)) ∧ w' = w := by
  by_cases h1 : t.size < 1
  · go_enter Tryd.func75, Tryd.ntmps75
    go_wp2
    go_ret
    exact ⟨ret_bool (labelB_size (.inl h1)).symm, rfl⟩
  have q1 : decide ((t.size : Int) < 1) = false := by rw [decide_eq_false_iff_not]; omega
  by_cases h2 : 12 < t.size
  · go_enter Tryd.func75, Tryd.ntmps75
    go_wp2
    go_ret
    exact ⟨ret_bool (labelB_size (.inr h2)).symm, rfl⟩
  have q2 : decide ((12 : Int) < (t.size : Int)) = false := by rw [decide_eq_false_iff_not]; omega
  have hp : 0 < t.size := by omega
  have hl : t.size - 1 < t.size := by omega
  by_cases h3 : t[0].toNat = 45
  · have q3 : ((t[0].toNat : Int) == 45) = true := by rw [beq_iff_eq]; omega
    have H3 : Hid (t[0].toNat = 45) := h3
    clear h3
    go_enter Tryd.func75, Tryd.ntmps75
    go_wp2
    go_ret
    exact ⟨ret_bool (labelB_first hp H3.out).symm, rfl⟩
  have q3 : ((t[0].toNat : Int) == 45) = false := by rw [beq_eq_false_iff_ne]; omega
  have H3 : Hid (¬ t[0].toNat = 45) := h3
  clear h3
  by_cases h4 : t[t.size - 1].toNat = 45
  · have q4 : ((t[t.size - 1].toNat : Int) == 45) = true := by rw [beq_iff_eq]; omega
    have H4 : Hid (t[t.size - 1].toNat = 45) := h4
    clear h4
    go_enter Tryd.func75, Tryd.ntmps75
    go_wp2
    go_ret
    exact ⟨ret_bool (labelB_last hl H4.out).symm, rfl⟩
  have q4 : ((t[t.size - 1].toNat : Int) == 45) = false := by rw [beq_eq_false_iff_ne]; omega
  have H4 : Hid (¬ t[t.size - 1].toNat = 45) := h4
  clear h4
  go_enter Tryd.func75, Tryd.ntmps75
  go_wp2
  go_loop [4, 5] (fun i _ => ∃ k : Nat, k ≤ t.size ∧ i = .int .i64 k ∧ Hid (∀ i (h : i < t.size), i < k → labC t[i].toNat = true)) (fun i _ => t.size - (intOf i).toNat)
  case atStart => exact ⟨0, Nat.zero_le _, rfl, fun i _ hi => absurd hi (by omega)⟩
  case round =>
    obtain ⟨k, hk, rfl, HR⟩ := hrel
    by_cases hlt : k < t.size
    · rcases (show (t[k].toNat < 45) ∨ (45 ≤ t[k].toNat ∧ t[k].toNat ≤ 45) ∨ (46 ≤ t[k].toNat ∧ t[k].toNat < 48) ∨ (48 ≤ t[k].toNat ∧ t[k].toNat ≤ 57) ∨ (58 ≤ t[k].toNat ∧ t[k].toNat < 97) ∨ (97 ≤ t[k].toNat ∧ t[k].toNat ≤ 122) ∨ (122 < t[k].toNat) by omega)
        with c1 | ⟨c1, c2⟩ | ⟨c1, c2⟩ | ⟨c1, c2⟩ | ⟨c1, c2⟩ | ⟨c1, c2⟩ | c1
      · have b1 : decide ((97 : Int) ≤ (t[k].toNat : Int)) = false := by rw [decide_eq_false_iff_not]; omega
        have b2 : decide ((48 : Int) ≤ (t[k].toNat : Int)) = false := by rw [decide_eq_false_iff_not]; omega
        have b3 : ((t[k].toNat : Int) == 45) = false := by rw [beq_eq_false_iff_ne]; omega
        go_wp2
        go_ret
        exact ⟨ret_bool (labelB_at k hlt (labC_no (by omega))).symm, rfl⟩
      · have b1 : decide ((97 : Int) ≤ (t[k].toNat : Int)) = false := by rw [decide_eq_false_iff_not]; omega
        have b2 : decide ((48 : Int) ≤ (t[k].toNat : Int)) = false := by rw [decide_eq_false_iff_not]; omega
        have b3 : ((t[k].toNat : Int) == 45) = true := by rw [beq_iff_eq]; omega
        go_wp2
        go_round
        case rel => exact ⟨k + 1, by omega, by go_num, all_succ HR.out hlt (labC_yes (by omega))⟩
        case measure => simp [intOf]; omega
      · have b1 : decide ((97 : Int) ≤ (t[k].toNat : Int)) = false := by rw [decide_eq_false_iff_not]; omega
        have b2 : decide ((48 : Int) ≤ (t[k].toNat : Int)) = false := by rw [decide_eq_false_iff_not]; omega
        have b3 : ((t[k].toNat : Int) == 45) = false := by rw [beq_eq_false_iff_ne]; omega
        go_wp2
        go_ret
        exact ⟨ret_bool (labelB_at k hlt (labC_no (by omega))).symm, rfl⟩
      · have b1 : decide ((97 : Int) ≤ (t[k].toNat : Int)) = false := by rw [decide_eq_false_iff_not]; omega
        go_wp2
        go_round
        case rel => exact ⟨k + 1, by omega, by go_num, all_succ HR.out hlt (labC_yes (by omega))⟩
        case measure => simp [intOf]; omega
      · have b1 : decide ((97 : Int) ≤ (t[k].toNat : Int)) = false := by rw [decide_eq_false_iff_not]; omega
        have b2 : decide ((t[k].toNat : Int) ≤ 57) = false := by rw [decide_eq_false_iff_not]; omega
        have b3 : ((t[k].toNat : Int) == 45) = false := by rw [beq_eq_false_iff_ne]; omega
        go_wp2
        go_ret
        exact ⟨ret_bool (labelB_at k hlt (labC_no (by omega))).symm, rfl⟩
      · go_wp2
        go_round
        case rel => exact ⟨k + 1, by omega, by go_num, all_succ HR.out hlt (labC_yes (by omega))⟩
        case measure => simp [intOf]; omega
      · have b1 : decide ((t[k].toNat : Int) ≤ 122) = false := by rw [decide_eq_false_iff_not]; omega
        have b2 : decide ((t[k].toNat : Int) ≤ 57) = false := by rw [decide_eq_false_iff_not]; omega
        have b3 : ((t[k].toNat : Int) == 45) = false := by rw [beq_eq_false_iff_ne]; omega
        go_wp2
        go_ret
        exact ⟨ret_bool (labelB_at k hlt (labC_no (by omega))).symm, rfl⟩
    · go_wp2
      go_ret
      exact ⟨ret_bool (labelB_true (by omega) (by omega) (fun _ => H3.out) (fun _ => H4.out) (fun i h => HR.out i h (by omega))).symm, rfl⟩

set_option maxRecDepth 10000 in
set_option maxHeartbeats 400000 in
theorem specPath_any (t : ByteArray) (w : World) :
    Calls Tryd.prog 44 #[.string t] w fun e w' => e = .returned (.bool (pathB t)) ∧ w' = w := by
  by_cases h1 : t.size < 1
  · go_enter Tryd.func44, Tryd.ntmps44
    go_wp2
    go_ret
    exact ⟨ret_bool (pathB_size (.inl h1)).symm, rfl⟩
  have q1 : decide ((t.size : Int) < 1) = false := by rw [decide_eq_false_iff_not]; omega
  by_cases h2 : 40 < t.size
  · go_enter Tryd.func44, Tryd.ntmps44
    go_wp2
    go_ret
    exact ⟨ret_bool (pathB_size (.inr h2)).symm, rfl⟩
  have q2 : decide ((40 : Int) < (t.size : Int)) = false := by rw [decide_eq_false_iff_not]; omega
  have hp : 0 < t.size := by omega
  by_cases h3 : t[0].toNat = 47
  case neg =>
    have q3 : ((t[0].toNat : Int) != 47) = true := by rw [bne_iff_ne]; omega
    have H3 : Hid (¬ t[0].toNat = 47) := h3
    clear h3
    go_enter Tryd.func44, Tryd.ntmps44
    go_wp2
    go_ret
    exact ⟨ret_bool (pathB_first hp H3.out).symm, rfl⟩
  have q3 : ((t[0].toNat : Int) != 47) = false := by rw [bne_eq_false_iff_eq]; omega
  have H3 : Hid (t[0].toNat = 47) := h3
  clear h3
  go_enter Tryd.func44, Tryd.ntmps44
  go_wp2
  go_loop [3] (fun i => ∃ k : Nat, k ≤ t.size ∧ i = .int .i64 k ∧ Hid (∀ i (h : i < t.size), i < k → pathC t[i].toNat = true)) (fun i => t.size - (intOf i).toNat)
  case atStart => exact ⟨0, Nat.zero_le _, rfl, fun i _ hi => absurd hi (by omega)⟩
  case round =>
    obtain ⟨k, hk, rfl, HR⟩ := hrel
    by_cases hlt : k < t.size
    · by_cases d1 : t[k].toNat < 33
      · go_wp2
        go_ret
        exact ⟨ret_bool (pathB_at k hlt (pathC_no (by omega))).symm, rfl⟩
      have b1 : decide ((t[k].toNat : Int) < 33) = false := by rw [decide_eq_false_iff_not]; omega
      by_cases d2 : 126 < t[k].toNat
      · go_wp2
        go_ret
        exact ⟨ret_bool (pathB_at k hlt (pathC_no (by omega))).symm, rfl⟩
      have b2 : decide ((126 : Int) < (t[k].toNat : Int)) = false := by rw [decide_eq_false_iff_not]; omega
      by_cases d3 : t[k].toNat = 63
      · have b3 : ((t[k].toNat : Int) == 63) = true := by rw [beq_iff_eq]; omega
        have D3 : Hid (t[k].toNat = 63) := d3
        clear d3
        go_wp2
        go_ret
        exact ⟨ret_bool (pathB_at k hlt (pathC_no (by have := D3.out; omega))).symm, rfl⟩
      have b3 : ((t[k].toNat : Int) == 63) = false := by rw [beq_eq_false_iff_ne]; omega
      by_cases d4 : t[k].toNat = 35
      · have b4 : ((t[k].toNat : Int) == 35) = true := by rw [beq_iff_eq]; omega
        have D4 : Hid (t[k].toNat = 35) := d4
        clear d4
        go_wp2
        go_ret
        exact ⟨ret_bool (pathB_at k hlt (pathC_no (by have := D4.out; omega))).symm, rfl⟩
      have b4 : ((t[k].toNat : Int) == 35) = false := by rw [beq_eq_false_iff_ne]; omega
      by_cases d5 : t[k].toNat = 59
      · have b5 : ((t[k].toNat : Int) == 59) = true := by rw [beq_iff_eq]; omega
        have D5 : Hid (t[k].toNat = 59) := d5
        clear d5
        go_wp2
        go_ret
        exact ⟨ret_bool (pathB_at k hlt (pathC_no (by have := D5.out; omega))).symm, rfl⟩
      have b5 : ((t[k].toNat : Int) == 59) = false := by rw [beq_eq_false_iff_ne]; omega
      have HC : Hid (pathC t[k].toNat = true) := pathC_yes (by omega)
      clear d3 d4 d5
      go_wp2
      go_round
      case rel => exact ⟨k + 1, by omega, by go_num, all_succ HR.out hlt HC.out⟩
      case measure => simp [intOf]; omega
    · go_wp2
      go_ret
      exact ⟨ret_bool (pathB_true (by omega) (by omega) (fun _ => H3.out) (fun i h => HR.out i h (by omega))).symm, rfl⟩
end Go.Proofs.YthcpmbolnmlohaaDoor

/- The walks of the specification's l01Split and HostRight. -/
namespace Go.Proofs.YthcpmbolnmlohaaDoor
open Go.RowKit

theorem infoStr : (Tryd.prog.info? 9).map (fun i => (i.zero, i.size, i.bytes)) = some (some (.string ⟨#[]⟩), 1, 16) := by kernel_rfl
/-- the cells of texts -/
def strCells (L : List ByteArray) : List Value := L.map Value.string
theorem strCells_snoc (L : List ByteArray) (x : ByteArray) : strCells L ++ [.string x] = strCells (L ++ [x]) := by simp [strCells]

set_option maxRecDepth 10000 in
set_option maxHeartbeats 400000 in
theorem split_any (s : ByteArray) (c : Nat) (w : World) (hs : s.size ≤ 1048576) :
    Calls Tryd.prog 40 #[.string s, .int .u8 c] w fun e w' => ∃ v, e = .returned v ∧ w'.ownsRow w.heap.size 9 1 v (splitB s c).length (strCells (splitB s c)) ∧ Below w.heap.size w w' := by
  obtain ⟨i0, hi, hz0, hz1, hz2⟩ := info_parts infoStr
  go_enter Tryd.func40, Tryd.ntmps40
  go_wp2
  go_loopw [5, 6, 7] (fun v f i wr => ∃ k : Nat, k ≤ s.size ∧ i = .int .i64 k ∧ f = .int .i64 ((splitTo s c k).2 : Nat) ∧ wr.ownsRow w.heap.size 9 1 v (splitTo s c k).1.length (strCells (splitTo s c k).1) ∧ Below w.heap.size w wr) (fun _ _ i _ => s.size - (intOf i).toNat)
  case atStart => exact ⟨0, Nat.zero_le _, rfl, rfl, World.ownsRow_made w #[] 0 (Nat.le_refl _) (Nat.zero_le _) rfl, (Below.refl _ _).alloc (Nat.le_refl _) _⟩
  case round =>
    obtain ⟨k, hk, rfl, rfl, hown, hb⟩ := hrel
    have hle := splitTo_le s c k
    have hbs := hb.size
    by_cases hlt : k < s.size
    · by_cases hit : s[k].toNat = c
      · have HS : Hid (splitTo s c (k + 1) = ((splitTo s c k).1 ++ [s.extract (splitTo s c k).2 k], k + 1)) := splitTo_hit hlt hit
        have q : ((s[k].toNat : Int) == (c : Int)) = true := by rw [beq_iff_eq]; omega
        clear hit
        generalize splitTo s c k = r at *
        obtain ⟨L, f⟩ := r
        have hown2 : wr.ownsRow w.heap.size 9 1 u5 L.length (strCells L) := hown
        have hf1 : f ≤ k := hle.1
        have hf2 : L.length ≤ k := hle.2
        clear hown hle
        go_wp2_with (at_builtin; go_must (refine wpList_append_own _ rfl _ _ 52 rfl w.heap.size 9 i0 (.string ⟨#[]⟩) 1 16 Tryd.underlying52 hi hz0 hz1 hz2 rfl (by decide) _ _ _ rfl (hown2.alloc _) ⟨wr.heap.size, 0, none⟩ 1 1 [.string (s.extract f k)] rfl rfl (cell_one_new _ _ _) (by intro u hu; simp at hu; subst hu; rfl) (by unfold maxLen; omega) (by omega) (by simp; omega) ?_))
        intro v' w2 hown3 hgrow _
        rw [strCells_snoc] at hown3
        have hb2 : Below w.heap.size w w2 := (hb.alloc hbs _).grown hgrow (by simp; omega) (fun j hj => (hown2.lt j hj).1)
        clear hown2 hgrow hb
        go_wp2
        go_roundw
        case rel => exact ⟨k + 1, by omega, by go_num, by rw [HS.out]; go_num, by rw [HS.out]; simpa using hown3, hb2⟩
        case measure => simp [intOf]; omega
      · have HS : Hid (splitTo s c (k + 1) = splitTo s c k) := splitTo_miss hlt hit
        have q : ((s[k].toNat : Int) == (c : Int)) = false := by rw [beq_eq_false_iff_ne]; omega
        clear hit
        generalize splitTo s c k = r at *
        obtain ⟨L, f⟩ := r
        have hown2 : wr.ownsRow w.heap.size 9 1 u5 L.length (strCells L) := hown
        clear hown hle
        go_wp2
        go_roundw
        case rel => exact ⟨k + 1, by omega, by go_num, by rw [HS.out], by rw [HS.out]; exact hown2, hb⟩
        case measure => simp [intOf]; omega
    · obtain rfl : k = s.size := by omega
      have HS : Hid (splitB s c = (splitTo s c s.size).1 ++ [s.extract (splitTo s c s.size).2 s.size]) := rfl
      generalize splitTo s c s.size = r at *
      obtain ⟨L, f⟩ := r
      have hown2 : wr.ownsRow w.heap.size 9 1 u5 L.length (strCells L) := hown
      have hf1 : f ≤ s.size := hle.1
      have hf2 : L.length ≤ s.size := hle.2
      clear hown hle
      go_wp2_with (at_builtin; go_must (refine wpList_append_own _ rfl _ _ 52 rfl w.heap.size 9 i0 (.string ⟨#[]⟩) 1 16 Tryd.underlying52 hi hz0 hz1 hz2 rfl (by decide) _ _ _ rfl (hown2.alloc _) ⟨wr.heap.size, 0, none⟩ 1 1 [.string (s.extract f s.size)] rfl rfl (cell_one_new _ _ _) (by intro u hu; simp at hu; subst hu; rfl) (by unfold maxLen; omega) (by omega) (by simp; omega) ?_))
      intro v' w2 hown3 hgrow _
      rw [strCells_snoc] at hown3
      have hb2 : Below w.heap.size w w2 := (hb.alloc hbs _).grown hgrow (by simp; omega) (fun j hj => (hown2.lt j hj).1)
      clear hown2 hgrow hb
      go_wp2
      go_ret
      exact ⟨_, rfl, by rw [HS.out]; simpa using hown3, hb2⟩

theorem splitB_ne (s : ByteArray) (c : Nat) : ∃ n, (splitB s c).length = n + 1 := ⟨(splitTo s c s.size).1.length, by simp [splitB]⟩

set_option maxRecDepth 10000 in
set_option maxHeartbeats 400000 in
theorem specHost_any (s : ByteArray) (w : World) :
    Calls Tryd.prog 43 #[.string s] w fun e w' => e = .returned (.bool (hostB s)) ∧ Below w.heap.size w w' := by
  by_cases h1 : 100 < s.size
  · go_enter Tryd.func43, Tryd.ntmps43
    go_wp2
    go_ret
    exact ⟨ret_bool (hostB_size h1).symm, Below.refl _ _⟩
  have HA : Hid ((∀ k (h : k < (splitB s 46).length), labelB ((splitB s 46)[k]) = false → hostB s = false) ∧ ((∀ k (h : k < (splitB s 46).length), labelB ((splitB s 46)[k]) = true) → hostB s = decide ((splitB s 46).length ≤ 6))) :=
    ⟨fun k h hl => hostB_at k h hl, fun h => hostB_all (by omega) h⟩
  have hn := splitB_len s 46
  obtain ⟨n, hn1⟩ := splitB_ne s 46
  have HC : Hid (∀ W, Calls Tryd.prog 40 #[.string s, .int .u8 46] W fun e w' => ∃ v, e = .returned v ∧ w'.ownsRow W.heap.size 9 1 v (splitB s 46).length (strCells (splitB s 46)) ∧ Below W.heap.size W w') := fun W => split_any s 46 W (by omega)
  generalize splitB s 46 = L at *
  go_enter Tryd.func43, Tryd.ntmps43
  go_wp2_with fail
  refine (HC.out _).mono ?_
  rintro e w1 ⟨v, rfl, hown, hb⟩
  rw [hn1] at hown
  obtain ⟨g, cap, rfl⟩ := own_shape hown
  have hL : n + 1 ≤ 101 := by omega
  have hcell : ∀ k (h : k < L.length), w1.cell? ⟨g, k, none⟩ = some (.string L[k]) := by
    intro k hk
    rw [hown.cellAt k (by omega)]
    simp [strCells, hk]
  have HN : Hid (L.length = n + 1) := hn1
  clear hn1 hn hown
  go_wp2
  go_loop [4] (fun i => ∃ k : Nat, k ≤ n + 1 ∧ i = .int .i64 k ∧ Hid (∀ j (h : j < L.length), j < k → labelB L[j] = true)) (fun i => n + 1 - (intOf i).toNat)
  case atStart => exact ⟨0, by omega, rfl, fun j _ hj => absurd hj (by omega)⟩
  case round =>
    obtain ⟨k, hk, rfl, HR⟩ := hrel
    by_cases hlt : k < n + 1
    · have hkl : k < L.length := by rw [HN.out]; exact hlt
      have hck := hcell k hkl
      cases hlab : labelB L[k] with
      | true =>
        have HC2 : Hid (∀ W, Calls Tryd.prog 75 #[.string L[k]] W fun e w' => e = .returned (.bool true) ∧ w' = W) := fun W => by rw [← hlab]; exact specLabel_any L[k] W
        have HL : Hid (labelB L[k] = true) := hlab
        clear hlab hcell
        generalize hx : L[k] = x at *
        have HX : Hid (L[k] = x) := hx
        clear hx
        go_wp2_with (go_at_call 75; refine (HC2.out _).mono ?_; rintro e w2 ⟨rfl, rfl⟩)
        go_round
        case rel =>
          refine ⟨k + 1, by omega, by go_num, ?_⟩
          intro j hj hjk
          by_cases e : j = k
          · subst e; rw [HX.out]; exact HL.out
          · exact HR.out j hj (by omega)
        case measure => simp [intOf]; omega
      | false =>
        have HC2 : Hid (∀ W, Calls Tryd.prog 75 #[.string L[k]] W fun e w' => e = .returned (.bool false) ∧ w' = W) := fun W => by rw [← hlab]; exact specLabel_any L[k] W
        have HF : Hid (hostB s = false) := HA.out.1 k hkl hlab
        clear hlab hcell
        generalize L[k] = x at *
        go_wp2_with (go_at_call 75; refine (HC2.out _).mono ?_; rintro e w2 ⟨rfl, rfl⟩)
        go_ret
        exact ⟨ret_bool HF.out.symm, hb⟩
    · have HF : Hid (hostB s = decide (((n + 1 : Nat) : Int) ≤ 6)) := by
        show _ = _
        rw [HA.out.2 (fun j hj => HR.out j hj (by have := HN.out; omega)), HN.out]
        congr 1
        exact propext ⟨fun h => by omega, fun h => by omega⟩
      clear hcell
      go_wp2
      go_ret
      exact ⟨ret_bool (by rw [HF.out]; simp), hb⟩
end Go.Proofs.YthcpmbolnmlohaaDoor

/- The walks of the specification's l02Place, UrlRight, l02Text and UrlText. -/
namespace Go.Proofs.YthcpmbolnmlohaaDoor
open Go.RowKit

def schemeB (t : ByteArray) : Bool := (t.toList == [104, 116, 116, 112]) || (t.toList == [104, 116, 116, 112, 115])
def placeB (sc ho : ByteArray) (po : Int) : Bool := schemeB sc && hostB ho && (decide (1 ≤ po) && decide (po ≤ 65535))
def urlB (sc ho pa : ByteArray) (po : Int) : Bool := placeB sc ho po && pathB pa


set_option maxRecDepth 10000 in
set_option maxHeartbeats 400000 in
theorem specIs_any (n lo hi : Int) (w : World) :
    Calls Tryd.prog 39 #[.int .i64 n, .int .i64 lo, .int .i64 hi] w fun e w' => e = .returned (.bool (decide (lo ≤ n) && decide (n ≤ hi))) ∧ w' = w := by
  by_cases h : lo ≤ n
  · go_enter Tryd.func39, Tryd.ntmps39
    go_wp2
    go_ret
    exact ⟨ret_bool (by simp [h]), rfl⟩
  · have q : decide (lo ≤ n) = false := by rw [decide_eq_false_iff_not]; exact h
    go_enter Tryd.func39, Tryd.ntmps39
    go_wp2
    go_ret
    exact ⟨ret_bool (by simp), rfl⟩


/-- a Url, as a value -/
def urlV (sc ho pa : ByteArray) (po : Int) : Value := .agg #[.string sc, .string ho, .int .i64 po, .string pa]


def usualP (sc : ByteArray) : Int := if (sc.toList == [104, 116, 116, 112, 115]) = true then 443 else 80
/-- the text of a place -/
def placeT (sc ho : ByteArray) (po : Int) : ByteArray := if po = usualP sc then sc ++ ⟨#[58, 47, 47]⟩ ++ ho else sc ++ ⟨#[58, 47, 47]⟩ ++ ho ++ ⟨#[58]⟩ ++ decB po


theorem decB_size {n : Int} (h1 : -9223372036854775808 ≤ n) (h2 : n ≤ 9223372036854775807) : (decB n).size ≤ 21 := by
  unfold decB
  split
  · exact (by decide : 1 ≤ 21)
  · split
    · have := decA_twenty (m := n.natAbs) (by omega)
      rw [ByteArray.size_append]
      show 1 + (decA n.natAbs).length ≤ 21
      omega
    · have := decA_twenty (m := n.natAbs) (by omega)
      show (decA n.natAbs).length ≤ 21
      omega
theorem specDec_any (n : Int) (w : World) (h1 : -9223372036854775808 ≤ n) (h2 : n ≤ 9223372036854775807) :
    Calls Tryd.prog 78 #[.int .i64 n] w fun e w' => e = .returned (.string (decB n)) ∧ Below w.heap.size w w' := by
  by_cases h0 : n = 0
  · subst h0; exact specDec_zero w
  by_cases hn : n < 0
  · obtain ⟨m, hm⟩ : ∃ m : Nat, n = -(m : Int) := ⟨n.natAbs, by omega⟩
    subst hm
    exact specDec_neg m w (by omega) (by omega)
  · obtain ⟨m, rfl⟩ := Int.eq_ofNat_of_zero_le (show 0 ≤ n by omega)
    exact specDec_pos m w (by omega) (by omega)

end Go.Proofs.YthcpmbolnmlohaaDoor

/- The walk of the specification's UrlText. -/
namespace Go.Proofs.YthcpmbolnmlohaaDoor
open Go.RowKit

/-- the text of a right url, else the empty one -/
def urlT (sc ho pa : ByteArray) (po : Int) : ByteArray := if urlB sc ho pa po = true then placeT sc ho po ++ pa else ⟨#[]⟩
theorem schemeB_size {t : ByteArray} (h : schemeB t = true) : t.size ≤ 5 := by
  have hl : t.size = t.toList.length := by rw [ByteArray.toList_eq]; rfl
  unfold schemeB at h
  rw [Bool.or_eq_true, beq_iff_eq, beq_iff_eq] at h
  rcases h with h | h <;> rw [hl, h] <;> decide
theorem urlB_parts {sc ho pa : ByteArray} {po : Int} (h : urlB sc ho pa po = true) : sc.size ≤ 5 ∧ ho.size ≤ 100 ∧ 1 ≤ po ∧ po ≤ 65535 ∧ pa.size ≤ 40 := by
  unfold urlB placeB at h
  simp only [Bool.and_eq_true, decide_eq_true_eq] at h
  obtain ⟨⟨⟨h1, h2⟩, h3, h4⟩, h5⟩ := h
  refine ⟨schemeB_size h1, ?_, h3, h4, ?_⟩
  · by_cases hz : 100 < ho.size
    · rw [hostB_size hz] at h2; cases h2
    · omega
  · by_cases hz : 40 < pa.size
    · rw [pathB_size (.inr hz)] at h5; cases h5
    · omega
theorem placeT_size {sc ho : ByteArray} {po : Int} (h1 : sc.size ≤ 5) (h2 : ho.size ≤ 100) (h3 : 1 ≤ po) (h4 : po ≤ 65535) : (placeT sc ho po).size ≤ 200 := by
  have hd := decB_size (n := po) (by omega) (by omega)
  have e1 : (⟨#[58, 47, 47]⟩ : ByteArray).size = 3 := rfl
  have e2 : (⟨#[58]⟩ : ByteArray).size = 1 := rfl
  unfold placeT
  split
  · rw [ByteArray.size_append, ByteArray.size_append]; omega
  · rw [ByteArray.size_append, ByteArray.size_append, ByteArray.size_append, ByteArray.size_append]; omega

end Go.Proofs.YthcpmbolnmlohaaDoor

/- The specification's drawn hosts and urls: what they tell is short. -/
namespace Go.Proofs.YthcpmbolnmlohaaDoor
open Go.RowKit

/-- n texts of at most N bytes in block h -/
def ShortRow (w : World) (h n N : Nat) : Prop := ∀ j, j < n → ∃ x : ByteArray, w.cell? ⟨h, j, none⟩ = some (.string x) ∧ x.size ≤ N
def shortB (cs : Array Value) (n N : Nat) : Bool := (List.range n).all fun j => match cs[j]? with | some (.string x) => decide (x.size ≤ N) | _ => false
theorem short_made (w : World) (cs : Array Value) (t : TypeId) (n N : Nat) (h : shortB cs n N = true) : ShortRow (w.alloc (.cells cs t)) w.heap.size n N := by
  intro j hj
  have := List.all_eq_true.mp h j (List.mem_range.mpr hj)
  rw [World.cell?_alloc_new]
  revert this
  cases cs[j]? with
  | none => intro h; cases h
  | some v =>
    cases v with
    | string x => intro h; exact ⟨x, rfl, by simpa using h⟩
    | _ => intro h; cases h
theorem short_made_at (w : World) (b : Nat) (hb : b = w.heap.size) (cs : Array Value) (t : TypeId) (n N : Nat) (h : shortB cs n N = true) : ShortRow (w.alloc (.cells cs t)) b n N := by
  subst hb; exact short_made w cs t n N h

set_option maxRecDepth 10000 in
set_option maxHeartbeats 400000 in
theorem srcPick_short (g h n cap N : Nat) (w : World) (hs : SrcAt w g) (ht : ShortRow w h (n + 2) N) (hne : h ≠ g) (hn : n ≤ 1048576) :
    Calls Tryd.prog 35 #[.pointer (some ⟨g, 0, none⟩), .slice (some ⟨h, 0, none⟩) (n + 2) cap] w fun e w' => (∃ t : ByteArray, e = .returned (.string t) ∧ t.size ≤ N) ∧ SrcAt w' g ∧ w.grownBy w' (some g) := by
  classical
  let f : Nat → ByteArray := fun j => if hj : j < n + 2 then (ht j hj).choose else ⟨#[]⟩
  refine (srcPick_any g h n cap f w hs ?_ hne hn).mono ?_
  · intro j hj
    simp only [f, dif_pos hj]
    exact (ht j hj).choose_spec.1
  · rintro e w' ⟨⟨j, hj, rfl⟩, h1, h2⟩
    refine ⟨⟨_, rfl, ?_⟩, h1, h2⟩
    simp only [f, dif_pos hj]
    exact (ht j hj).choose_spec.2

theorem cell_lt {w : World} {a : Addr} {v : Value} (h : w.cell? a = some v) : a.block < w.heap.size := by
  unfold World.cell? at h
  split at h
  · rename_i hb
    exact (Array.getElem?_eq_some_iff.mp hb).1
  · cases h
theorem SrcAt.alloc {w : World} {g : Nat} (h : SrcAt w g) (o : Obj) : SrcAt (w.alloc o) g := by
  obtain ⟨hg, a, len, cap, k, mix, size, ⟨c0, c1, c2, c3⟩, hm, hf, hb⟩ := h
  refine ⟨by simp; omega, a, len, cap, k, mix, size, ⟨?_, ?_, ?_, ?_⟩, hm, ?_, ?_⟩
  · rw [World.cell?_alloc_lt _ _ _ hg]; exact c0
  · rw [World.cell?_alloc_lt _ _ _ hg]; exact c1
  · rw [World.cell?_alloc_lt _ _ _ hg]; exact c2
  · rw [World.cell?_alloc_lt _ _ _ hg]; exact c3
  · intro o'
    rw [World.frozen?_of_block (w := w) (Below.heap_alloc _ _ _ hg)]; exact hf o'
  · intro i hi
    obtain ⟨x, z, e, hx, hc, hz⟩ := hb i hi
    exact ⟨x, z, e, hx, (World.cell?_of_block (w := w) (Below.heap_alloc _ _ _ (cell_lt hc))).trans hc, hz⟩

end Go.Proofs.YthcpmbolnmlohaaDoor

/- The specification's drawn urls: their texts are short. -/
namespace Go.Proofs.YthcpmbolnmlohaaDoor
open Go.RowKit

/-- four cells in block b, none of them frozen -/
def U4 (w : World) (b : Nat) (v0 v1 v2 v3 : Value) : Prop := b < w.heap.size ∧ (w.cell? ⟨b, 0, none⟩ = some v0 ∧ w.cell? ⟨b, 1, none⟩ = some v1 ∧ w.cell? ⟨b, 2, none⟩ = some v2 ∧ w.cell? ⟨b, 3, none⟩ = some v3) ∧ ∀ o, w.frozen? ⟨b, o, none⟩ = false
theorem U4.kept {w w' : World} {b : Nat} {v0 v1 v2 v3 : Value} {r : Option Nat} (h : U4 w b v0 v1 v2 v3) (hg : w.grownBy w' r) (hne : some b ≠ r) : U4 w' b v0 v1 v2 v3 := by
  obtain ⟨hb, ⟨c0, c1, c2, c3⟩, hf⟩ := h
  have hs := hg.size
  refine ⟨by omega, ⟨hg.cell (a := ⟨b, 0, none⟩) c0 hne, hg.cell (a := ⟨b, 1, none⟩) c1 hne, hg.cell (a := ⟨b, 2, none⟩) c2 hne, hg.cell (a := ⟨b, 3, none⟩) c3 hne⟩, ?_⟩
  intro o
  rw [World.frozen?_of_block (w := w) (a := ⟨b, o, none⟩) (hg.block b hb hne)]
  exact hf o
theorem U4.made (w : World) (v0 v1 v2 v3 : Value) (t : TypeId) : U4 (w.alloc (.cells #[v0, v1, v2, v3] t)) w.heap.size v0 v1 v2 v3 := by
  refine ⟨by simp, ⟨by simp, by simp, by simp, by simp⟩, by simp⟩
theorem U4.alloc {w : World} {b : Nat} {v0 v1 v2 v3 : Value} (h : U4 w b v0 v1 v2 v3) (o : Obj) : U4 (w.alloc o) b v0 v1 v2 v3 := h.kept (World.grownBy_alloc w o none) (by simp)
/-- a cell of a block that the call has made is written -/
theorem grown_new {w w' : World} {r : Option Nat} {p : Addr} (h : w.grownBy w' r) (hp : w.heap.size ≤ p.block) (v : Value) : w.grownBy (w'.setCell p v) r :=
  ⟨h.os, h.tape, h.output, by have := h.size; simp [World.setCell]; omega, fun j hj hne => by
    rw [Below.heap_setCell _ _ _ _ (by omega)]; exact h.block j hj hne⟩
theorem SrcAt.setCell {w : World} {g : Nat} {p : Addr} (h : SrcAt w g) (hp : g < p.block) (v : Value) : SrcAt (w.setCell p v) g := by
  obtain ⟨hg, a, len, cap, k, mix, size, ⟨c0, c1, c2, c3⟩, hm, hf, hby⟩ := h
  have hne : p.block ≠ g := by omega
  refine ⟨by simpa [World.setCell] using hg, a, len, cap, k, mix, size, ⟨?_, ?_, ?_, ?_⟩, hm, ?_, ?_⟩
  · rw [World.cell?_setCell_far _ _ _ _ hne]; exact c0
  · rw [World.cell?_setCell_far _ _ _ _ hne]; exact c1
  · rw [World.cell?_setCell_far _ _ _ _ hne]; exact c2
  · rw [World.cell?_setCell_far _ _ _ _ hne]; exact c3
  · intro o; rw [World.frozen?_setCell]; exact hf o
  · intro i hi
    obtain ⟨x, z, e, hx, hc, hz⟩ := hby i hi
    refine ⟨x, z, e, hx, ?_, hz⟩
    rw [World.cell?_setCell_far _ _ _ _ (by rw [add_block]; omega)]
    exact hc
theorem U4.far {w : World} {b : Nat} {v0 v1 v2 v3 : Value} {p : Addr} (h : U4 w b v0 v1 v2 v3) (hp : p.block ≠ b) (v : Value) : U4 (w.setCell p v) b v0 v1 v2 v3 := by
  obtain ⟨hb, ⟨c0, c1, c2, c3⟩, hf⟩ := h
  refine ⟨by simpa [World.setCell] using hb, ⟨?_, ?_, ?_, ?_⟩, ?_⟩
  · rw [World.cell?_setCell_far _ _ _ _ hp]; exact c0
  · rw [World.cell?_setCell_far _ _ _ _ hp]; exact c1
  · rw [World.cell?_setCell_far _ _ _ _ hp]; exact c2
  · rw [World.cell?_setCell_far _ _ _ _ hp]; exact c3
  · intro o; rw [World.frozen?_setCell]; exact hf o
theorem U4.set0 {w : World} {b : Nat} {v0 v1 v2 v3 : Value} (h : U4 w b v0 v1 v2 v3) (v : Value) : U4 (w.setCell ⟨b, 0, none⟩ v) b v v1 v2 v3 := by
  obtain ⟨hb, ⟨c0, c1, c2, c3⟩, hf⟩ := h
  refine ⟨by simpa [World.setCell] using hb, ⟨?_, ?_, ?_, ?_⟩, ?_⟩
  · exact World.cell?_setCell_same _ _ _ c0
  · rw [World.cell?_setCell_other _ _ _ _ (by simp)]; exact c1
  · rw [World.cell?_setCell_other _ _ _ _ (by simp)]; exact c2
  · rw [World.cell?_setCell_other _ _ _ _ (by simp)]; exact c3
  · intro o; rw [World.frozen?_setCell]; exact hf o
theorem U4.set1 {w : World} {b : Nat} {v0 v1 v2 v3 : Value} (h : U4 w b v0 v1 v2 v3) (v : Value) : U4 (w.setCell ⟨b, 1, none⟩ v) b v0 v v2 v3 := by
  obtain ⟨hb, ⟨c0, c1, c2, c3⟩, hf⟩ := h
  refine ⟨by simpa [World.setCell] using hb, ⟨?_, ?_, ?_, ?_⟩, ?_⟩
  · rw [World.cell?_setCell_other _ _ _ _ (by simp)]; exact c0
  · exact World.cell?_setCell_same _ _ _ c1
  · rw [World.cell?_setCell_other _ _ _ _ (by simp)]; exact c2
  · rw [World.cell?_setCell_other _ _ _ _ (by simp)]; exact c3
  · intro o; rw [World.frozen?_setCell]; exact hf o
theorem U4.set2 {w : World} {b : Nat} {v0 v1 v2 v3 : Value} (h : U4 w b v0 v1 v2 v3) (v : Value) : U4 (w.setCell ⟨b, 2, none⟩ v) b v0 v1 v v3 := by
  obtain ⟨hb, ⟨c0, c1, c2, c3⟩, hf⟩ := h
  refine ⟨by simpa [World.setCell] using hb, ⟨?_, ?_, ?_, ?_⟩, ?_⟩
  · rw [World.cell?_setCell_other _ _ _ _ (by simp)]; exact c0
  · rw [World.cell?_setCell_other _ _ _ _ (by simp)]; exact c1
  · exact World.cell?_setCell_same _ _ _ c2
  · rw [World.cell?_setCell_other _ _ _ _ (by simp)]; exact c3
  · intro o; rw [World.frozen?_setCell]; exact hf o
theorem U4.set3 {w : World} {b : Nat} {v0 v1 v2 v3 : Value} (h : U4 w b v0 v1 v2 v3) (v : Value) : U4 (w.setCell ⟨b, 3, none⟩ v) b v0 v1 v2 v := by
  obtain ⟨hb, ⟨c0, c1, c2, c3⟩, hf⟩ := h
  refine ⟨by simpa [World.setCell] using hb, ⟨?_, ?_, ?_, ?_⟩, ?_⟩
  · rw [World.cell?_setCell_other _ _ _ _ (by simp)]; exact c0
  · rw [World.cell?_setCell_other _ _ _ _ (by simp)]; exact c1
  · rw [World.cell?_setCell_other _ _ _ _ (by simp)]; exact c2
  · exact World.cell?_setCell_same _ _ _ c3
  · intro o; rw [World.frozen?_setCell]; exact hf o

end Go.Proofs.YthcpmbolnmlohaaDoor

/- The specification's spoil: a text changed a little is at most one byte longer. -/
namespace Go.Proofs.YthcpmbolnmlohaaDoor
open Go.RowKit

end Go.Proofs.YthcpmbolnmlohaaDoor

/- The specification's draws over urls: a drawn url, a drawn text, a drawn host: all short. -/
namespace Go.Proofs.YthcpmbolnmlohaaDoor
open Go.RowKit

theorem CodeRow.below {w w' : World} {a : Option Addr} {len : Nat} (h : CodeRow w a len) (hb : Below w.heap.size w w') : CodeRow w' a len := by
  intro i hi
  obtain ⟨x, z, e, hx, hc, hz⟩ := h i hi
  exact ⟨x, z, e, Nat.lt_of_lt_of_le hx hb.size, by rw [hb.cell (p := x.add i) (by rw [add_block]; exact hx)]; exact hc, hz⟩
/-- a draw's world: nothing that was there is turned -/
theorem below_grown {w w1 w2 : World} {B g : Nat} (h : Below B w w1) (hg : w1.grownBy w2 (some g)) (hB : B ≤ w1.heap.size) (hBg : B ≤ g) : Below B w w2 := h.grown hg hB (fun k e => by injection e with e; omega)

theorem SrcAt.below {w w' : World} {g : Nat} (h : SrcAt w g) (hb : Below w.heap.size w w') : SrcAt w' g := by
  obtain ⟨hg, a, len, cap, k, mix, size, ⟨c0, c1, c2, c3⟩, hm, hf, hby⟩ := h
  refine ⟨Nat.lt_of_lt_of_le hg hb.size, a, len, cap, k, mix, size, ⟨?_, ?_, ?_, ?_⟩, hm, ?_, ?_⟩
  · rw [(bcell hb).1 _ _ hg]; exact c0
  · rw [(bcell hb).1 _ _ hg]; exact c1
  · rw [(bcell hb).1 _ _ hg]; exact c2
  · rw [(bcell hb).1 _ _ hg]; exact c3
  · intro o; rw [(bcell hb).2 _ _ hg]; exact hf o
  · intro i hi
    obtain ⟨x, z, e, hx, hc, hz⟩ := hby i hi
    exact ⟨x, z, e, hx, by rw [hb.cell (p := x.add i) (by rw [add_block]; omega)]; exact hc, hz⟩




end Go.Proofs.YthcpmbolnmlohaaDoor

/- The specification's drawn kinds and texts of kinds. -/
namespace Go.Proofs.YthcpmbolnmlohaaDoor
open Go.RowKit

/-- n numbers in block h -/
def IntsRow (w : World) (h n : Nat) : Prop := ∀ j, j < n → ∃ x : Int, w.cell? ⟨h, j, none⟩ = some (.int .i64 x)
def intsB (cs : Array Value) (n : Nat) : Bool := (List.range n).all fun j => match cs[j]? with | some (.int .i64 _) => true | _ => false
theorem ints_made (w : World) (cs : Array Value) (t : TypeId) (n : Nat) (h : intsB cs n = true) : IntsRow (w.alloc (.cells cs t)) w.heap.size n := by
  intro j hj
  have := List.all_eq_true.mp h j (List.mem_range.mpr hj)
  rw [World.cell?_alloc_new]
  revert this
  cases cs[j]? with
  | none => intro h; cases h
  | some v =>
    cases v with
    | int k x => cases k with
      | i64 => intro _; exact ⟨x, rfl⟩
      | _ => intro h; cases h
    | _ => intro h; cases h
theorem IntsRow.kept {w w' : World} {h n : Nat} {r : Option Nat} (hi : IntsRow w h n) (hg : w.grownBy w' r) (hne : some h ≠ r) : IntsRow w' h n := fun j hj => by
  obtain ⟨x, hx⟩ := hi j hj
  exact ⟨x, hg.cell (a := ⟨h, j, none⟩) hx hne⟩
set_option maxRecDepth 10000 in
set_option maxHeartbeats 1000000 in
theorem srcEdge_any (g : Nat) (w : World) (hs : SrcAt w g) :
    Calls Tryd.prog 32 #[.pointer (some ⟨g, 0, none⟩)] w fun e w' => (∃ n : Int, e = .returned (.int .i64 n)) ∧ SrcAt w' g ∧ w.grownBy w' (some g) := by
  have hgw := hs.1
  have HN : Hid (∀ o, Calls Tryd.prog 33 #[.pointer (some ⟨g, 0, none⟩), .int .i64 14] (w.alloc o) fun e w' => ∃ r : Int, e = .returned (.int .i64 r) ∧ 0 ≤ r ∧ (1 < (14 : Int) → r < 14) ∧ ((14 : Int) ≤ 1 → r = 0) ∧ SrcAt w' g ∧ (w.alloc o).grownBy w' (some g)) := fun o => srcN_any g 14 _ (hs.alloc o) (by decide)
  have HI : Hid (∀ cs t, intsB cs 14 = true → IntsRow (w.alloc (.cells cs t)) w.heap.size 14) := fun cs t h => ints_made w cs t 14 h
  have HG : Hid (∀ o, w.grownBy (w.alloc o) (some g)) := fun o => World.grownBy_alloc _ _ _
  clear hs
  go_enter Tryd.func32, Tryd.ntmps32
  go_wp2_with fail
  refine (HN.out _).mono ?_
  rintro e w1 ⟨r, rfl, r0, r1, _, h1, h2⟩
  have r2 := r1 (by decide)
  obtain ⟨j, rfl⟩ : ∃ j : Nat, r = j := ⟨r.toNat, by omega⟩
  have hj : j < 14 := by omega
  obtain ⟨x, hx⟩ := (IntsRow.kept (HI.out _ _ (by rfl)) h2 (by intro e; injection e with e; omega)) j hj
  have G2 : Hid (w.grownBy w1 (some g)) := (HG.out _).trans h2
  have S2 : Hid (SrcAt w1 g) := h1
  clear h1 h2 r1 HI HN HG
  go_wp2
  go_ret
  exact ⟨⟨x, rfl⟩, S2.out, G2.out⟩
set_option maxRecDepth 10000 in
set_option maxHeartbeats 1000000 in
theorem drawClearText_any (a : Option Addr) (len cap : Nat) (w : World) (hr : CodeRow w a len) (hl : len ≤ 1048576) :
    Calls Tryd.prog 10 #[.slice a len cap] w fun e w' => (∃ n : Int, e = .returned (.int .i64 n)) ∧ Below w.heap.size w w' := by
  have H1 : Hid (Calls Tryd.prog 30 #[.slice a len cap] w fun e w' => e = .returned (.pointer (some ⟨w.heap.size, 0, none⟩)) ∧ SrcAt w' w.heap.size ∧ Below w.heap.size w w') := source_any a len cap w hr hl
  clear hr
  go_enter Tryd.func10, Tryd.ntmps10
  go_wp2_with fail
  refine H1.out.mono ?_
  rintro e w1 ⟨rfl, s1, hb1⟩
  go_wp2_with fail
  refine (srcOne_any _ 6 _ s1 (by decide)).mono ?_
  rintro e w2 ⟨⟨b, rfl⟩, s2, g2⟩
  have B2 : Hid (Below w.heap.size w w2) := below_grown hb1 g2 hb1.size (Nat.le_refl _)
  clear hb1 g2 s1
  cases b with
  | true =>
    go_wp2_with fail
    refine (srcEdge_any _ _ s2).mono ?_
    rintro e w3 ⟨⟨n, rfl⟩, _, g3⟩
    go_wp2
    go_ret
    exact ⟨⟨n, rfl⟩, below_grown B2.out g3 B2.out.size (Nat.le_refl _)⟩
  | false =>
    go_wp2_with fail
    refine (srcN_any _ 9 _ s2 (by decide)).mono ?_
    rintro e w3 ⟨n, rfl, _, _, _, _, g3⟩
    go_wp2
    go_ret
    exact ⟨⟨n, rfl⟩, below_grown B2.out g3 B2.out.size (Nat.le_refl _)⟩
set_option maxRecDepth 10000 in
set_option maxHeartbeats 2000000 in
theorem drawClearRead_any (a : Option Addr) (len cap : Nat) (w : World) (hr : CodeRow w a len) (hl : len ≤ 1048576) :
    Calls Tryd.prog 12 #[.slice a len cap] w fun e w' => (∃ t : ByteArray, e = .returned (.string t) ∧ t.size ≤ 100) ∧ Below w.heap.size w w' := by
  have H1 : Hid (Calls Tryd.prog 30 #[.slice a len cap] w fun e w' => e = .returned (.pointer (some ⟨w.heap.size, 0, none⟩)) ∧ SrcAt w' w.heap.size ∧ Below w.heap.size w w') := source_any a len cap w hr hl
  clear hr
  go_enter Tryd.func12, Tryd.ntmps12
  go_wp2_with fail
  refine H1.out.mono ?_
  rintro e w1 ⟨rfl, s1, hb1⟩
  go_wp2_with fail
  refine (srcN_any _ 4 _ s1 (by decide)).mono ?_
  rintro e w2 ⟨r, rfl, r0, r1, _, s2, g2⟩
  have r2 := r1 (by decide)
  have B2 : Hid (Below w.heap.size w w2) := below_grown hb1 g2 hb1.size (Nat.le_refl _)
  have S2 : Hid (SrcAt w2 w.heap.size) := s2
  clear hb1 g2 s1 s2 r1
  go_wp2
  go_loopw [4, 5] (fun x i wr => ∃ (k : Nat) (t : ByteArray), k ≤ 3 ∧ i = .int .i64 (k : Int) ∧ x = .string t ∧ t.size ≤ 20 * (3 - k) ∧ Hid (SrcAt wr w.heap.size) ∧ Hid (Below w.heap.size w wr)) (fun _ i _ => (intOf i).toNat)
  case atStart => exact ⟨r.toNat, ⟨#[]⟩, by omega, by rw [Int.toNat_of_nonneg r0], rfl, Nat.zero_le _, S2, B2⟩
  case round =>
    obtain ⟨k, t, hk, rfl, rfl, ht, HS, HB⟩ := hrel
    by_cases h0 : 0 < k
    · have q0 : decide ((0 : Int) < (k : Int)) = true := by rw [decide_eq_true_iff]; omega
      have hz := HB.out.size
      have hg := HS.out.1
      go_wp2_with fail
      refine (srcPick_short w.heap.size wr.heap.size 5 7 11 _ (HS.out.alloc _) (short_made wr _ _ _ _ (by rfl)) (by omega) (by decide)).mono ?_
      rintro e w3 ⟨⟨t1, rfl, ht1⟩, s3, g3⟩
      have S3 : Hid (SrcAt w3 w.heap.size) := s3
      have B3 : Hid (Below w.heap.size w w3) := below_grown (HB.out.alloc hz _) g3 (by simp; omega) (Nat.le_refl _)
      clear s3 g3
      have hg3 := S3.out.1
      go_wp2_with fail
      refine (srcPick_short w.heap.size w3.heap.size 0 2 2 _ (S3.out.alloc _) (short_made w3 _ _ _ _ (by rfl)) (by omega) (by decide)).mono ?_
      rintro e w4 ⟨⟨t2, rfl, ht2⟩, s4, g4⟩
      have S4 : Hid (SrcAt w4 w.heap.size) := s4
      have B4 : Hid (Below w.heap.size w w4) := below_grown (B3.out.alloc B3.out.size _) g4 (by have := B3.out.size; simp; omega) (Nat.le_refl _)
      clear s4 g4
      have hz1 : (t ++ t1 : ByteArray).size ≤ 100 := by rw [ByteArray.size_append]; omega
      have HZ : Hid ((t ++ t1 ++ t2 : ByteArray).size ≤ 20 * (3 - (k - 1))) := by show _ ≤ _; rw [ByteArray.size_append, ByteArray.size_append]; omega
      go_wp2
      go_roundw
      case rel => exact ⟨k - 1, _, by omega, by rw [Int.ofNat_sub (by omega)]; rfl, rfl, HZ.out, S4, B4⟩
      case measure => simp [intOf]; omega
    · have q0 : decide ((0 : Int) < (k : Int)) = false := by rw [decide_eq_false_iff_not]; omega
      go_wp2
      go_ret
      exact ⟨⟨t, rfl, by omega⟩, HB.out⟩
end Go.Proofs.YthcpmbolnmlohaaDoor

/- The first place of a text in another one, and the number that digits tell, as plain functions. -/
namespace Go.Proofs.YthcpmbolnmlohaaDoor
/-- does x stand in t at place i? -/
def isAt (t x : ByteArray) (i : Nat) : Bool := (t.extract i (i + x.size)).toList == x.toList
/-- the first place of x in t among the first i ones -/
def findTo (t x : ByteArray) : Nat → Option Nat
  | 0 => none
  | i + 1 => match findTo t x i with
    | some k => some k
    | none => if i + x.size ≤ t.size ∧ isAt t x i = true then some i else none
def findN (t x : ByteArray) : Option Nat := findTo t x (t.size + 1)
/-- as the specification tells it: -1 of none -/
def findI (t x : ByteArray) : Int := match findN t x with | some k => (k : Int) | none => -1
theorem findTo_hit {t x : ByteArray} {i : Nat} (h : findTo t x i = none) (h1 : i + x.size ≤ t.size) (h2 : isAt t x i = true) : findTo t x (i + 1) = some i := by
  rw [findTo, h]; simp [h1, h2]
theorem findTo_miss {t x : ByteArray} {i : Nat} (h : findTo t x i = none) (h2 : ¬ (i + x.size ≤ t.size ∧ isAt t x i = true)) : findTo t x (i + 1) = none := by
  rw [findTo, h]; simp only; rw [if_neg h2]
theorem findTo_keep {t x : ByteArray} {i k : Nat} (h : findTo t x i = some k) (j : Nat) : findTo t x (i + j) = some k := by
  induction j with
  | zero => exact h
  | succ j ih => rw [← Nat.add_assoc, findTo, ih]
theorem findTo_after {t x : ByteArray} {i : Nat} (h : findTo t x i = none) (hi : t.size < i + x.size) (j : Nat) : findTo t x (i + j) = none := by
  induction j with
  | zero => exact h
  | succ j ih => rw [← Nat.add_assoc]; exact findTo_miss ih (by omega)
theorem findTo_lt {t x : ByteArray} {i k : Nat} (h : findTo t x i = some k) : k < i ∧ k + x.size ≤ t.size ∧ isAt t x k = true := by
  induction i with
  | zero => cases h
  | succ i ih =>
    rw [findTo] at h
    cases hf : findTo t x i with
    | some m =>
      rw [hf] at h
      obtain rfl : m = k := by simpa using h
      have := ih hf
      exact ⟨by omega, this.2⟩
    | none =>
      rw [hf] at h
      simp only at h
      split at h
      · rename_i hc
        obtain rfl : i = k := by simpa using h
        exact ⟨by omega, hc⟩
      · cases h
theorem findI_hit {t x : ByteArray} {i : Nat} (h : findTo t x i = none) (h1 : i + x.size ≤ t.size) (h2 : isAt t x i = true) : findI t x = i := by
  have h3 := findTo_keep (findTo_hit h h1 h2) (t.size - i)
  unfold findI findN
  rw [show t.size + 1 = i + 1 + (t.size - i) by omega, h3]
theorem findI_none {t x : ByteArray} {i : Nat} (h : findTo t x i = none) (hi : t.size < i + x.size) (hle : i ≤ t.size + 1) : findI t x = -1 := by
  have h3 := findTo_after h hi (t.size + 1 - i)
  unfold findI findN
  rw [show t.size + 1 = i + (t.size + 1 - i) by omega, h3]
/-- the number of the first i bytes as digits -/
def numTo (t : ByteArray) : Nat → Nat
  | 0 => 0
  | i + 1 => if h : i < t.size then 10 * numTo t i + (t[i].toNat - 48) else numTo t i
theorem numTo_succ {t : ByteArray} {i : Nat} (h : i < t.size) : numTo t (i + 1) = 10 * numTo t i + (t[i].toNat - 48) := by rw [numTo, dif_pos h]
theorem numTo_lt (t : ByteArray) (hd : ∀ i (h : i < t.size), 48 ≤ t[i].toNat ∧ t[i].toNat ≤ 57) (i : Nat) : numTo t i < 10 ^ i := by
  induction i with
  | zero => exact (by decide : 0 < 10 ^ 0)
  | succ i ih =>
    rw [numTo, Nat.pow_succ]
    split
    · rename_i h
      have := hd i h
      omega
    · omega
def digC (c : Nat) : Bool := decide (48 ≤ c ∧ c ≤ 57)
/-- digits that are no number of at most nine of them: -1 -/
def numI (t : ByteArray) : Int := if 1 ≤ t.size ∧ t.size ≤ 9 ∧ (1 < t.size → ∀ h : 0 < t.size, ¬ t[0].toNat = 48) ∧ ∀ i (h : i < t.size), digC t[i].toNat = true then (numTo t t.size : Int) else -1
theorem numI_size {t : ByteArray} (h : t.size < 1 ∨ 9 < t.size) : numI t = -1 := by
  unfold numI; rw [if_neg]; rintro ⟨a, b, _⟩; omega
theorem numI_first {t : ByteArray} (h : 1 < t.size) (hc : t[0].toNat = 48) : numI t = -1 := by
  unfold numI; rw [if_neg]; rintro ⟨_, _, a, _⟩; exact a h (by omega) hc
theorem numI_at {t : ByteArray} (k : Nat) (h : k < t.size) (hk : digC t[k].toNat = false) : numI t = -1 := by
  unfold numI; rw [if_neg]; rintro ⟨_, _, _, c⟩; rw [c k h] at hk; cases hk
theorem numI_yes {t : ByteArray} (h1 : 1 ≤ t.size) (h2 : t.size ≤ 9) (h3 : 1 < t.size → ∀ h : 0 < t.size, ¬ t[0].toNat = 48) (h : ∀ i (h : i < t.size), digC t[i].toNat = true) : numI t = numTo t t.size := by
  unfold numI; rw [if_pos ⟨h1, h2, h3, h⟩]
theorem digC_yes {c : Nat} (h : 48 ≤ c ∧ c ≤ 57) : digC c = true := by unfold digC; rw [decide_eq_true_iff]; exact h
theorem digC_no {c : Nat} (h : ¬ (48 ≤ c ∧ c ≤ 57)) : digC c = false := by unfold digC; rw [decide_eq_false_iff_not]; exact h
theorem digC_of {c : Nat} (h : digC c = true) : 48 ≤ c ∧ c ≤ 57 := by unfold digC at h; rwa [decide_eq_true_iff] at h
end Go.Proofs.YthcpmbolnmlohaaDoor

/- The walks of the specification's l02Find (from place 0 on) and l02Num. -/
namespace Go.Proofs.YthcpmbolnmlohaaDoor
open Go.RowKit

set_option maxRecDepth 10000 in
set_option maxHeartbeats 400000 in
theorem specFind_any (t x : ByteArray) (w : World) (ht : t.size ≤ 1048576) (hx : x.size ≤ 1048576) :
    Calls Tryd.prog 82 #[.string t, .int .i64 0, .string x] w fun e w' => e = .returned (.int .i64 (findI t x)) ∧ w' = w := by
  go_enter Tryd.func82, Tryd.ntmps82
  go_wp2
  go_loop [7] (fun i => ∃ k : Nat, k ≤ t.size + 1 ∧ i = .int .i64 k ∧ Hid (findTo t x k = none)) (fun i => t.size + 1 - (intOf i).toNat)
  case atStart => exact ⟨0, by omega, rfl, rfl⟩
  case round =>
    obtain ⟨k, hk, rfl, HN⟩ := hrel
    by_cases hle : k + x.size ≤ t.size
    · cases hat : isAt t x k with
      | true =>
        have HF : Hid (findI t x = k) := findI_hit HN.out hle hat
        have q : ((t.extract k (k + x.size)).toList == x.toList) = true := hat
        clear hat
        go_wp2
        go_ret
        exact ⟨ret_int HF.out.symm, rfl⟩
      | false =>
        have HF : Hid (findTo t x (k + 1) = none) := findTo_miss HN.out (by rw [hat]; simp)
        have q : ((t.extract k (k + x.size)).toList == x.toList) = false := hat
        clear hat
        go_wp2
        go_round
        case rel => exact ⟨k + 1, by omega, by go_num, HF⟩
        case measure => simp [intOf]; omega
    · have HF : Hid (findI t x = -1) := findI_none HN.out (by omega) hk
      go_wp2
      go_ret
      exact ⟨ret_int HF.out.symm, rfl⟩
set_option maxRecDepth 10000 in
set_option maxHeartbeats 400000 in
theorem specNum_any (t : ByteArray) (w : World) :
    Calls Tryd.prog 80 #[.string t] w fun e w' => e = .returned (.int .i64 (numI t)) ∧ w' = w := by
  by_cases h1 : t.size < 1
  · go_enter Tryd.func80, Tryd.ntmps80
    go_wp2
    go_ret
    exact ⟨ret_int (numI_size (.inl h1)).symm, rfl⟩
  have q1 : decide ((t.size : Int) < 1) = false := by rw [decide_eq_false_iff_not]; omega
  by_cases h2 : 9 < t.size
  · go_enter Tryd.func80, Tryd.ntmps80
    go_wp2
    go_ret
    exact ⟨ret_int (numI_size (.inr h2)).symm, rfl⟩
  have q2 : decide ((9 : Int) < (t.size : Int)) = false := by rw [decide_eq_false_iff_not]; omega
  have hp : 0 < t.size := by omega
  by_cases h3 : 1 < t.size ∧ t[0].toNat = 48
  · obtain ⟨h4, h5⟩ := h3
    have q3 : ((t[0].toNat : Int) == 48) = true := by rw [beq_iff_eq]; omega
    have H5 : Hid (t[0].toNat = 48) := h5
    clear h5
    go_enter Tryd.func80, Tryd.ntmps80
    go_wp2
    go_ret
    exact ⟨ret_int (numI_first h4 H5.out).symm, rfl⟩
  have H3 : Hid (1 < t.size → ∀ h : 0 < t.size, ¬ t[0].toNat = 48) := fun h _ hc => h3 ⟨h, hc⟩
  have HB : Hid (∀ k ≤ 9, 10 ^ k ≤ 1000000000) := fun k hk => Nat.le_trans (Nat.pow_le_pow_right (by omega) hk) (by decide)
  by_cases h4 : 1 < t.size
  all_goals
    first
      | (have q3 : ((t[0].toNat : Int) == 48) = false := by rw [beq_eq_false_iff_ne]; intro hc; exact h3 ⟨h4, by omega⟩)
      | (have q3 : decide ((1 : Int) < (t.size : Int)) = false := by rw [decide_eq_false_iff_not]; omega)
    clear h3
    go_enter Tryd.func80, Tryd.ntmps80
    go_wp2
    go_loop [3, 4] (fun n i => ∃ k : Nat, k ≤ t.size ∧ i = .int .i64 k ∧ n = .int .i64 (numTo t k : Nat) ∧ Hid (∀ i (h : i < t.size), i < k → digC t[i].toNat = true) ∧ Hid (numTo t k < 10 ^ k)) (fun _ i => t.size - (intOf i).toNat)
    case atStart => exact ⟨0, Nat.zero_le _, rfl, rfl, fun i _ hi => absurd hi (by omega), (by decide : 0 < 10 ^ 0)⟩
    case round =>
      obtain ⟨k, hk, rfl, rfl, HR, HL⟩ := hrel
      by_cases hlt : k < t.size
      · by_cases d1 : t[k].toNat < 48
        · go_wp2
          go_ret
          exact ⟨ret_int (numI_at k hlt (digC_no (by omega))).symm, rfl⟩
        have b1 : decide ((t[k].toNat : Int) < 48) = false := by rw [decide_eq_false_iff_not]; omega
        by_cases d2 : 57 < t[k].toNat
        · go_wp2
          go_ret
          exact ⟨ret_int (numI_at k hlt (digC_no (by omega))).symm, rfl⟩
        have b2 : decide ((57 : Int) < (t[k].toNat : Int)) = false := by rw [decide_eq_false_iff_not]; omega
        have hn : numTo t k ≤ 1000000000 := Nat.le_trans (Nat.le_of_lt HL.out) (HB.out k (by omega))
        have HS : Hid (numTo t (k + 1) = 10 * numTo t k + (t[k].toNat - 48)) := numTo_succ hlt
        have HL2 : Hid (numTo t (k + 1) < 10 ^ (k + 1)) := by
          show _ < _
          have := HL.out
          rw [HS.out, Nat.pow_succ]; omega
        generalize numTo t k = v at *
        go_wp2
        go_round
        case rel => exact ⟨k + 1, by omega, by go_num, val_int (by rw [HS.out]; omega), all_succ HR.out hlt (digC_yes (by omega)), HL2⟩
        case measure => simp [intOf]; omega
      · obtain rfl : k = t.size := by omega
        have HF : Hid (numI t = numTo t t.size) := numI_yes (by omega) (by omega) H3.out (fun i h => HR.out i h h)
        go_wp2
        go_ret
        exact ⟨ret_int HF.out.symm, rfl⟩
end Go.Proofs.YthcpmbolnmlohaaDoor

/- A text without blanks at its ends; the walk of the specification's l04Trim. -/
namespace Go.Proofs.YthcpmbolnmlohaaDoor
open Go.RowKit

def trimL (t : ByteArray) : ByteArray := if h : 0 < t.size then (if t[0].toNat = 32 then trimL (t.extract 1 t.size) else t) else t
termination_by t.size
decreasing_by rw [ByteArray.size_extract]; omega
def trimR (t : ByteArray) : ByteArray := if h : 0 < t.size then (if t[t.size - 1].toNat = 32 then trimR (t.extract 0 (t.size - 1)) else t) else t
termination_by t.size
decreasing_by rw [ByteArray.size_extract]; omega
def szT : Value → Nat
  | .string s => s.size
  | _ => 0
/-- without the blanks at its ends -/
def trimB (t : ByteArray) : ByteArray := trimR (trimL t)
theorem trimL_yes {t : ByteArray} (h : 0 < t.size) (hc : t[0].toNat = 32) : trimL t = trimL (t.extract 1 t.size) := by rw [trimL, dif_pos h, if_pos hc]
theorem trimL_no {t : ByteArray} (h : 0 < t.size) (hc : ¬ t[0].toNat = 32) : trimL t = t := by rw [trimL, dif_pos h, if_neg hc]
theorem trimL_nil {t : ByteArray} (h : ¬ 0 < t.size) : trimL t = t := by rw [trimL, dif_neg h]
theorem trimR_yes {t : ByteArray} (h : 0 < t.size) (hc : t[t.size - 1].toNat = 32) : trimR t = trimR (t.extract 0 (t.size - 1)) := by rw [trimR, dif_pos h, if_pos hc]
theorem trimR_no {t : ByteArray} (h : 0 < t.size) (hc : ¬ t[t.size - 1].toNat = 32) : trimR t = t := by rw [trimR, dif_pos h, if_neg hc]
theorem trimR_nil {t : ByteArray} (h : ¬ 0 < t.size) : trimR t = t := by rw [trimR, dif_neg h]

set_option maxRecDepth 10000 in
set_option maxHeartbeats 2000000 in
theorem specTrim_any (t : ByteArray) (w : World) (ht : t.size ≤ 1048576) :
    Calls Tryd.prog 41 #[.string t] w fun e w' => e = .returned (.string (trimB t)) ∧ w' = w := by
  have rs : ∀ {a b : ByteArray}, a = b → (Ending.returned (.string a)) = .returned (.string b) := fun h => by rw [h]
  go_enter Tryd.func41, Tryd.ntmps41
  go_wp2
  go_loop [0] (fun x => ∃ u : ByteArray, x = .string u ∧ u.size ≤ t.size ∧ Hid (trimL u = trimL t)) (fun x => szT x)
  case atStart => exact ⟨t, rfl, Nat.le_refl _, rfl⟩
  case round =>
    obtain ⟨u, rfl, hu, HT⟩ := hrel
    by_cases hy : ∃ h : 0 < u.size, u[0].toNat = 32
    · obtain ⟨h, hc⟩ := hy
      have q : decide ((0 : Int) < (u.size : Int)) = true := by rw [decide_eq_true_iff]; omega
      have q2 : ((u[0].toNat : Int) == 32) = true := by rw [beq_iff_eq]; omega
      have HM : Hid (trimL (u.extract 1 u.size) = trimL t) := by show _ = _; rw [← HT.out, trimL_yes h hc]
      have hz : (u.extract 1 u.size).size = u.size - 1 := by rw [ByteArray.size_extract]; omega
      clear hc
      go_wp2
      go_round
      case rel => exact ⟨u.extract 1 u.size, by first | rfl | go_num, by omega, HM⟩
      case measure => first | (simp [szT]; omega) | (show (u.extract 1 u.size).size < u.size; omega)
    have HM : Hid (u = trimL t) := by
      show _ = _
      rw [← HT.out]
      by_cases h : 0 < u.size
      · rw [trimL_no h (fun hc => hy ⟨h, hc⟩)]
      · rw [trimL_nil h]
    have HF : Hid (trimR u = trimB t) := by show _ = _; rw [trimB, ← HM.out]
    clear HT HM
    by_cases h : 0 < u.size
    all_goals
      first
        | (have q2 : ((u[0].toNat : Int) == 32) = false := by rw [beq_eq_false_iff_ne]; intro hc; exact hy ⟨h, by omega⟩
           have q : decide ((0 : Int) < (u.size : Int)) = true := by rw [decide_eq_true_iff]; omega)
        | (have q : decide ((0 : Int) < (u.size : Int)) = false := by rw [decide_eq_false_iff_not]; omega)
      clear hy
      go_wp2
      go_loop [0] (fun x => ∃ u' : ByteArray, x = .string u' ∧ u'.size ≤ t.size ∧ Hid (trimR u' = trimB t)) (fun x => szT x)
      case atStart => exact ⟨u, rfl, hu, HF⟩
      case round =>
        obtain ⟨x, rfl, hx, HX⟩ := hrel
        by_cases hp : 0 < x.size
        · have p : decide ((0 : Int) < (x.size : Int)) = true := by rw [decide_eq_true_iff]; omega
          have k0 : (0 : Int) ≤ (x.size : Int) - 1 := by omega
          have k1 : (x.size : Int) - 1 ≤ x.size := by omega
          have ek : (x.size : Int) - 1 = ((x.size - 1 : Nat) : Int) := by omega
          by_cases hc : x[x.size - 1].toNat = 32
          · have p2 : ((x[x.size - 1].toNat : Int) == 32) = true := by rw [beq_iff_eq]; omega
            have HM : Hid (trimR (x.extract 0 (x.size - 1)) = trimB t) := by show _ = _; rw [← HX.out, trimR_yes hp hc]
            have hz : (x.extract 0 (x.size - 1)).size = x.size - 1 := by rw [ByteArray.size_extract]; omega
            clear hc
            go_wp2
            go_round
            case rel => exact ⟨x.extract 0 (x.size - 1), by first | rfl | go_num, by omega, HM⟩
            case measure => first | (simp [szT]; omega) | (show (x.extract 0 (x.size - 1)).size < x.size; omega)
          · have p2 : ((x[x.size - 1].toNat : Int) == 32) = false := by rw [beq_eq_false_iff_ne]; omega
            have HM : Hid (x = trimB t) := by show _ = _; rw [← HX.out, trimR_no hp hc]
            clear hc
            go_wp2
            go_ret
            exact ⟨rs HM.out, rfl⟩
        · have p : decide ((0 : Int) < (x.size : Int)) = false := by rw [decide_eq_false_iff_not]; omega
          have HM : Hid (x = trimB t) := by show _ = _; rw [← HX.out, trimR_nil hp]
          go_wp2
          go_ret
          exact ⟨rs HM.out, rfl⟩
end Go.Proofs.YthcpmbolnmlohaaDoor

/- A row of texts that a call owns, as a slice of texts. -/
namespace Go.Proofs.YthcpmbolnmlohaaDoor
open Go.RowKit

def atL (L : List ByteArray) (j : Nat) : ByteArray := L.getD j ⟨#[]⟩
theorem slice_of_own {w : World} {B : Nat} {t : TypeId} {v : Value} {L : List ByteArray} (h : w.ownsRow B t 1 v L.length (strCells L)) : SliceS w B v L.length (atL L) := by
  obtain ⟨h1, ⟨rfl, h0⟩ | ⟨g, cap, cur, rfl, hg, h3, h4, h5, h6, h7⟩⟩ := h
  · exact ⟨none, 0, by rw [h0], fun h => absurd h (by omega)⟩
  · refine ⟨_, cap, rfl, fun hn => ⟨g, rfl, hg, ?_, fun j hj => ?_⟩⟩
    · exact (Array.getElem?_eq_some_iff.mp h3).1
    · have e : cur[j]? = some (.string (atL L j)) := by
        have e1 : (cur.toList.take (L.length * 1))[j]? = (strCells L)[j]? := by rw [h7]
        rw [List.getElem?_take_of_lt (by omega)] at e1
        rw [← Array.getElem?_toList, e1]
        simp [strCells, atL, hj]
      refine ⟨?_, ?_⟩
      · simp [World.cell?, h3, e]
      · simp [World.frozen?, h3]
theorem own_below {w w' : World} {B n : Nat} {e : TypeId} {v : Value} {xs : List Value} (h : w.ownsRow B e 1 v n xs) (hb : Below w.heap.size w w') : w'.ownsRow B e 1 v n xs := by
  obtain ⟨hl, h0 | ⟨g, cap, cur, rfl, hbg, hh, r⟩⟩ := h
  · exact ⟨hl, .inl h0⟩
  · have hg : g < w.heap.size := (Array.getElem?_eq_some_iff.mp hh).1
    exact ⟨hl, .inr ⟨g, cap, cur, rfl, hbg, by rw [hb.block g hg]; exact hh, r⟩⟩
end Go.Proofs.YthcpmbolnmlohaaDoor

/- The walk of the specification's ClearRead. -/
namespace Go.Proofs.YthcpmbolnmlohaaDoor
open Go.RowKit

def qCache : List UInt8 := [34, 99, 97, 99, 104, 101, 34]
def qCookies : List UInt8 := [34, 99, 111, 111, 107, 105, 101, 115, 34]
def qStorage : List UInt8 := [34, 115, 116, 111, 114, 97, 103, 101, 34]
def qStar : List UInt8 := [34, 42, 34]
/-- is one of the first k that word, or the star? -/
def clTo (q : List UInt8) (L : List ByteArray) : Nat → Bool
  | 0 => false
  | k + 1 => clTo q L k || ((trimB (atL L k)).toList == q) || ((trimB (atL L k)).toList == qStar)
def clOf (L : List ByteArray) : Int := (if clTo qCache L L.length = true then 1 else 0) + (if clTo qCookies L L.length = true then 2 else 0) + (if clTo qStorage L L.length = true then 4 else 0)
/-- what ClearRead tells -/
def clearI (t : ByteArray) : Int := if 8000 < t.size then 0 else clOf (splitB t 44)
theorem word_of (l : List UInt8) :
    ((l == qCache) = true ∧ (l == qCookies) = false ∧ (l == qStorage) = false ∧ (l == qStar) = false)
    ∨ ((l == qCache) = false ∧ (l == qCookies) = true ∧ (l == qStorage) = false ∧ (l == qStar) = false)
    ∨ ((l == qCache) = false ∧ (l == qCookies) = false ∧ (l == qStorage) = true ∧ (l == qStar) = false)
    ∨ ((l == qCache) = false ∧ (l == qCookies) = false ∧ (l == qStorage) = false ∧ (l == qStar) = true)
    ∨ ((l == qCache) = false ∧ (l == qCookies) = false ∧ (l == qStorage) = false ∧ (l == qStar) = false) := by
  by_cases h1 : l = qCache
  · subst h1; decide
  by_cases h2 : l = qCookies
  · subst h2; decide
  by_cases h3 : l = qStorage
  · subst h3; decide
  by_cases h4 : l = qStar
  · subst h4; decide
  refine .inr (.inr (.inr (.inr ⟨?_, ?_, ?_, ?_⟩))) <;> rw [beq_eq_false_iff_ne] <;> assumption

set_option maxRecDepth 10000 in
set_option maxHeartbeats 8000000 in
theorem specClearRead_any (t : ByteArray) (w : World) :
    Calls Tryd.prog 15 #[.string t] w fun e w' => e = .returned (.int .i64 (clearI t)) ∧ Below w.heap.size w w' := by
  by_cases h8 : 8000 < t.size
  · have HR : Hid (clearI t = 0) := by show _ = _; unfold clearI; rw [if_pos h8]
    go_enter Tryd.func15, Tryd.ntmps15
    go_wp2
    go_ret
    exact ⟨ret_int HR.out.symm, Below.refl _ _⟩
  have q8 : decide ((8000 : Int) < (t.size : Int)) = false := by rw [decide_eq_false_iff_not]; omega
  have HE : Hid (clearI t = clOf (splitB t 44)) := by show _ = _; unfold clearI; rw [if_neg h8]
  have HC : Hid (∀ W, Calls Tryd.prog 40 #[.string t, .int .u8 44] W fun e w' => ∃ v, e = .returned v ∧ w'.ownsRow W.heap.size 9 1 v (splitB t 44).length (strCells (splitB t 44)) ∧ Below W.heap.size W w') := fun W => split_any t 44 W (by omega)
  have HZ : Hid (∀ i, i < (splitB t 44).length → (atL (splitB t 44) i).size ≤ 1048576) := fun i hi => by
    have e : atL (splitB t 44) i = (splitB t 44)[i] := by simp [atL, hi]
    rw [e]
    have := splitB_small t 44 _ (List.getElem_mem hi)
    omega
  have hlen := splitB_len t 44
  generalize clearI t = RR at *
  generalize splitB t 44 = L at *
  go_enter Tryd.func15, Tryd.ntmps15
  go_wp2_with fail
  refine (HC.out _).mono ?_
  rintro e w1 ⟨vL, rfl, ho, hb1⟩
  have B1 : Hid (Below w.heap.size w w1) := hb1
  have S1 : Hid (SliceS w1 w.heap.size vL L.length (atL L)) := slice_of_own ho
  clear ho hb1 HC
  obtain ⟨pL, cL, rfl, hg'⟩ := S1.out
  have HG : Hid (0 < L.length → ∃ g, pL = some ⟨g, 0, none⟩ ∧ ∀ k, k < L.length → w1.cell? ⟨g, k, none⟩ = some (.string (atL L k))) := fun h => by
    obtain ⟨g, e, -, -, hc⟩ := hg' h
    exact ⟨g, e, fun k hk => (hc k hk).1⟩
  clear hg' S1
  go_wp2
  go_loop [4, 5, 6, 7] (fun a b c i => ∃ k : Nat, k ≤ L.length ∧ i = .int .i64 k ∧ a = .bool (clTo qCache L k) ∧ b = .bool (clTo qCookies L k) ∧ c = .bool (clTo qStorage L k)) (fun _ _ _ i => L.length - (intOf i).toNat)
  case atStart => exact ⟨0, Nat.zero_le _, rfl, rfl, rfl, rfl⟩
  case round =>
    obtain ⟨k, hk, rfl, rfl, rfl, rfl⟩ := hrel
    by_cases hlt : k < L.length
    · obtain ⟨g, rfl, hc⟩ := HG.out (by omega)
      have hck := hc k hlt
      have k0 : (0 : Int) ≤ k := by omega
      have k1 : (k : Int) < L.length := by omega
      have KT : Hid (∀ W, Calls Tryd.prog 41 #[.string (atL L k)] W fun e w' => e = .returned (.string (trimB (atL L k))) ∧ w' = W) := fun W => specTrim_any _ W (HZ.out k hlt)
      have N1 : Hid (clTo qCache L (k + 1) = (clTo qCache L k || ((trimB (atL L k)).toList == qCache) || ((trimB (atL L k)).toList == qStar))) := rfl
      have N2 : Hid (clTo qCookies L (k + 1) = (clTo qCookies L k || ((trimB (atL L k)).toList == qCookies) || ((trimB (atL L k)).toList == qStar))) := rfl
      have N3 : Hid (clTo qStorage L (k + 1) = (clTo qStorage L k || ((trimB (atL L k)).toList == qStorage) || ((trimB (atL L k)).toList == qStar))) := rfl
      clear hc HG
      generalize trimB (atL L k) = u at *
      generalize atL L k = x at *
      generalize clTo qCache L k = b1 at *
      generalize clTo qCookies L k = b2 at *
      generalize clTo qStorage L k = b3 at *
      rcases word_of u.toList with ⟨e1, e2, e3, e4⟩ | ⟨e1, e2, e3, e4⟩ | ⟨e1, e2, e3, e4⟩ | ⟨e1, e2, e3, e4⟩ | ⟨e1, e2, e3, e4⟩
      all_goals
        rw [e1, e4] at N1
        rw [e2, e4] at N2
        rw [e3, e4] at N3
        unfold qCache at e1
        unfold qCookies at e2
        unfold qStorage at e3
        unfold qStar at e4
        cases b1 <;> cases b2 <;> cases b3
        all_goals
          go_wp2_with (go_at_call 41; refine (KT.out _).mono ?_; rintro e w2 ⟨rfl, rfl⟩)
          go_round
          case rel => exact ⟨k + 1, by omega, by go_num, by rw [N1.out]; rfl, by rw [N2.out]; rfl, by rw [N3.out]; rfl⟩
          case measure => simp [intOf]; omega
    · obtain rfl : k = L.length := by omega
      have HF : Hid (RR = (if clTo qCache L L.length = true then 1 else 0) + (if clTo qCookies L L.length = true then 2 else 0) + (if clTo qStorage L L.length = true then 4 else 0)) := HE.out
      clear HE
      generalize clTo qCache L L.length = b1 at *
      generalize clTo qCookies L L.length = b2 at *
      generalize clTo qStorage L L.length = b3 at *
      cases b1 <;> cases b2 <;> cases b3
      all_goals
        go_wp2
        go_ret
        exact ⟨ret_int (by rw [HF.out]; rfl), B1.out⟩
end Go.Proofs.YthcpmbolnmlohaaDoor

/- What the library's Split cuts a text into at a byte is splitB's list. -/
namespace Go.Proofs.YthcpmbolnmlohaaDoor
theorem first_split {c : UInt8} : ∀ {l : List UInt8}, c ∈ l → ∃ A B, l = A ++ c :: B ∧ ∀ x ∈ A, x ≠ c
  | [], h => by cases h
  | b :: l, h => by
    by_cases e : b = c
    · exact ⟨[], l, by rw [e]; rfl, fun x hx => by cases hx⟩
    · obtain ⟨A, B, rfl, hA⟩ := first_split (l := l) (by cases h with | head => exact absurd rfl e | tail _ h => exact h)
      refine ⟨b :: A, B, rfl, ?_⟩
      intro x hx
      cases hx with
      | head => exact e
      | tail _ hx => exact hA x hx
/-- a list of bytes cut at a byte -/
def cutL (c : UInt8) : List UInt8 → List (List UInt8)
  | [] => [[]]
  | b :: l => if b = c then [] :: cutL c l else match cutL c l with
    | [] => [[b]]
    | p :: r => (b :: p) :: r
theorem cutL_none (c : UInt8) : ∀ A : List UInt8, (∀ x ∈ A, x ≠ c) → cutL c A = [A]
  | [], _ => rfl
  | b :: A, h => by
    rw [cutL, if_neg (h b (by simp)), cutL_none c A (fun x hx => h x (by simp [hx]))]
theorem cutL_app (c : UInt8) (B : List UInt8) : ∀ A : List UInt8, (∀ x ∈ A, x ≠ c) → cutL c (A ++ c :: B) = A :: cutL c B
  | [], _ => by rw [List.nil_append, cutL, if_pos rfl]
  | b :: A, h => by
    rw [List.cons_append, cutL, if_neg (h b (by simp)), cutL_app c B A (fun x hx => h x (by simp [hx]))]
theorem index_one (c : UInt8) (A B : List UInt8) (h : ∀ x ∈ A, x ≠ c) : Lib.index (A ++ c :: B) [c] = A.length := by
  refine Lib.index_first (by simp) ?_ ?_
  · simp [Lib.occAt]
  · intro j hj
    rw [← Bool.not_eq_true]
    intro ho
    have e := Lib.occAt_head rfl ho
    rw [List.getElem?_append_left hj] at e
    exact h c (List.mem_of_getElem? e) rfl
theorem splitK_cutL (c : UInt8) : ∀ (k : Nat) (l : List UInt8), l.count c = k → Lib.splitK [c] 0 k l = cutL c l
  | 0, l, h => by
    rw [cutL_none c l (fun x hx e => by subst e; exact absurd (List.count_pos_iff.2 hx) (by omega))]
    rfl
  | k + 1, l, h => by
    obtain ⟨A, B, rfl, hA⟩ := first_split (List.count_pos_iff.1 (show 0 < l.count c by omega))
    have hi := index_one c A B hA
    have h0 : A.count c = 0 := List.count_eq_zero.2 (fun hx => hA c hx rfl)
    have hB : B.count c = k := by
      rw [List.count_append, List.count_cons_self, h0] at h; omega
    rw [Lib.splitK, if_neg (by rw [hi, beq_iff_eq]; omega), hi, cutL_app c B A hA]
    congr 1
    · simp
    · rw [← splitK_cutL c k B hB]
      congr 1
      rw [show ((A.length : Int)).toNat + [c].length = A.length + 1 by simp, ← List.drop_drop, List.drop_left]
      rfl
theorem extract_list (s : ByteArray) (a b : Nat) : (s.extract a b).data.toList = (s.data.toList.drop a).take (b - a) := by
  simp
theorem byte_list {s : ByteArray} {i : Nat} (h : i < s.size) : s.data.toList[i]'(by simpa using h) = s[i] := by simp; rfl
theorem splitTo_cut (s : ByteArray) (c : UInt8) : ∀ i, i ≤ s.size →
    cutL c s.data.toList = (splitTo s c.toNat i).1.map (·.data.toList) ++ cutL c (s.data.toList.drop (splitTo s c.toNat i).2) ∧
      ∀ j (h : j < s.size), (splitTo s c.toNat i).2 ≤ j → j < i → s[j] ≠ c
  | 0, _ => ⟨by simp [splitTo], fun j _ _ h => by omega⟩
  | i + 1, hi => by
    obtain ⟨e, hn⟩ := splitTo_cut s c i (by omega)
    have hlt : i < s.size := by omega
    have hle := (splitTo_le s c.toNat i).1
    by_cases hc : s[i].toNat = c.toNat
    · rw [splitTo_hit hlt hc]
      refine ⟨?_, fun j _ h1 h2 => by simp at h1; omega⟩
      rw [e]
      generalize (splitTo s c.toNat i).2 = f at *
      have hl : i < s.data.toList.length := by simpa using hlt
      have hd : s.data.toList.drop f = ((s.data.toList.drop f).take (i - f)) ++ c :: s.data.toList.drop (i + 1) := by
        have hci : s.data.toList[i] = c := by rw [byte_list hlt]; exact UInt8.toNat_inj.1 hc
        conv => lhs; rw [← List.take_append_drop (i - f) (s.data.toList.drop f)]
        congr 1
        rw [List.drop_drop, show f + (i - f) = i by omega, List.drop_eq_getElem_cons hl, hci]
      have hA : ∀ x ∈ (s.data.toList.drop f).take (i - f), x ≠ c := by
        intro x hx
        obtain ⟨k, hk, rfl⟩ := List.getElem_of_mem hx
        have hk2 : k < i - f := by rw [List.length_take] at hk; omega
        rw [List.getElem_take, List.getElem_drop]
        have := hn (f + k) (by omega) (by omega) (by omega)
        rw [← byte_list (by omega)] at this
        exact this
      conv => lhs; rw [hd, cutL_app c _ _ hA]
      simp
    · rw [splitTo_miss hlt hc]
      refine ⟨e, fun j h h1 h2 => ?_⟩
      by_cases hj : j = i
      · subst hj; exact fun e => hc (by rw [e])
      · exact hn j h h1 (by omega)
theorem splitB_cut (s : ByteArray) (c : UInt8) : (splitB s c.toNat).map (·.data.toList) = cutL c s.data.toList := by
  obtain ⟨e, hn⟩ := splitTo_cut s c s.size (Nat.le_refl _)
  have hle := (splitTo_le s c.toNat s.size).1
  unfold splitB
  rw [e]
  generalize (splitTo s c.toNat s.size).2 = f at *
  rw [cutL_none c (s.data.toList.drop f)]
  · rw [List.map_append]; congr 1
    simp only [List.map_cons, List.map_nil, extract_list]
    rw [List.take_of_length_le (by simp)]
  · intro x hx
    obtain ⟨k, hk, rfl⟩ := List.getElem_of_mem hx
    rw [List.getElem_drop]
    have hk2 : f + k < s.size := by rw [List.length_drop] at hk; simp at hk; omega
    have := hn (f + k) hk2 (by omega) hk2
    rw [← byte_list hk2] at this
    exact this
theorem datas_inj : ∀ {A B : List ByteArray}, A.map (·.data.toList) = B.map (·.data.toList) → A = B
  | [], [], _ => rfl
  | [], b :: B, h => by cases h
  | a :: A, [], h => by cases h
  | a :: A, b :: B, h => by
    simp only [List.map_cons, List.cons.injEq] at h
    obtain ⟨h1, h2⟩ := h
    rw [datas_inj h2]
    congr 1
    cases a; cases b
    congr 1
    exact Array.toList_inj.1 h1
theorem lib_split (s : ByteArray) (c : UInt8) : Lib.splitB ⟨#[c]⟩ 0 (Lib.countB s ⟨#[c]⟩) s = splitB s c.toNat := by
  apply datas_inj
  rw [Lib.splitB_data, splitB_cut]
  exact splitK_cutL c _ _ (Lib.count_one c s.data.toList).symm
theorem lib_count (s : ByteArray) (c : UInt8) : Lib.countB s ⟨#[c]⟩ + 1 = (splitB s c.toNat).length := by
  rw [← lib_split, Lib.splitB_all ⟨#[c]⟩ (Nat.le_refl 1) 0 _ s rfl]
end Go.Proofs.YthcpmbolnmlohaaDoor

/- What the library trims of blanks is what the specification trims. -/
namespace Go.Proofs.YthcpmbolnmlohaaDoor

theorem toNat_eq32 (b : UInt8) : b.toNat = 32 ↔ b = 32 := ⟨fun h => UInt8.toNat_inj.1 h, fun h => by rw [h]; rfl⟩
theorem trimL_data (t : ByteArray) : (trimL t).data.toList = t.data.toList.dropWhile (· == 32) := by
  generalize hn : t.size = n
  induction n using Nat.strongRecOn generalizing t with
  | _ n ih =>
    by_cases h : 0 < t.size
    · have hl : 0 < t.data.toList.length := by rw [← Lib.size_eq]; exact h
      have e0 : t.data.toList[0] = t[0] := byte_list h
      have ed : t.data.toList = t[0] :: t.data.toList.drop 1 := by
        conv => lhs; rw [← List.drop_zero (l := t.data.toList), List.drop_eq_getElem_cons hl, e0]
      by_cases hc : t[0].toNat = 32
      · have hz : (t.extract 1 t.size).size = t.size - 1 := by rw [ByteArray.size_extract]; omega
        rw [trimL_yes h hc, ih _ (by omega) _ hz, extract_list]
        conv => rhs; rw [ed]
        have : (t[0] == 32) = true := by rw [beq_iff_eq]; exact (toNat_eq32 _).1 hc
        rw [List.dropWhile_cons_of_pos (p := fun x : UInt8 => x == 32) this, List.take_of_length_le (by rw [List.length_drop, ← Lib.size_eq]; omega)]
      · rw [trimL_no h hc]
        have : ¬ (t[0] == 32) = true := by rw [beq_iff_eq]; exact fun e => hc ((toNat_eq32 _).2 e)
        conv => rhs; rw [ed]
        rw [List.dropWhile_cons_of_neg (p := fun x : UInt8 => x == 32) this, ← ed]
    · rw [trimL_nil h]
      have : t.data.toList = [] := List.length_eq_zero_iff.1 (by rw [← Lib.size_eq]; omega)
      rw [this]; rfl
theorem trimR_data (t : ByteArray) : (trimR t).data.toList = (t.data.toList.reverse.dropWhile (· == 32)).reverse := by
  generalize hn : t.size = n
  induction n using Nat.strongRecOn generalizing t with
  | _ n ih =>
    by_cases h : 0 < t.size
    · have hsz : t.data.toList.length = t.size := (Lib.size_eq t).symm
      have e0 : t.data.toList[t.size - 1]'(by omega) = t[t.size - 1] := byte_list (by omega)
      have ed : t.data.toList = t.data.toList.take (t.size - 1) ++ [t[t.size - 1]] := by
        conv => lhs; rw [← List.take_length (l := t.data.toList), hsz, show t.size = t.size - 1 + 1 by omega, List.take_succ_eq_append_getElem (by omega)]
        simp only [e0]
      by_cases hc : t[t.size - 1].toNat = 32
      · have hz : (t.extract 0 (t.size - 1)).size = t.size - 1 := by rw [ByteArray.size_extract]; omega
        rw [trimR_yes h hc, ih _ (by omega) _ hz, extract_list]
        conv => rhs; rw [ed]
        have : (t[t.size - 1] == 32) = true := by rw [beq_iff_eq]; exact (toNat_eq32 _).1 hc
        rw [List.reverse_append, List.reverse_singleton, List.singleton_append, List.dropWhile_cons_of_pos (p := fun x : UInt8 => x == 32) this, List.drop_zero, Nat.sub_zero]
      · rw [trimR_no h hc]
        have : ¬ (t[t.size - 1] == 32) = true := by rw [beq_iff_eq]; exact fun e => hc ((toNat_eq32 _).2 e)
        conv => rhs; rw [ed]
        rw [List.reverse_append, List.reverse_singleton, List.singleton_append, List.dropWhile_cons_of_neg (p := fun x : UInt8 => x == 32) this, List.reverse_cons, List.reverse_reverse, ← ed]
    · rw [trimR_nil h]
      have : t.data.toList = [] := List.length_eq_zero_iff.1 (by rw [← Lib.size_eq]; omega)
      rw [this]; rfl
theorem drop_rev (p : UInt8 → Bool) : ∀ l : List UInt8, (((l.dropWhile p).reverse).dropWhile p).reverse = ((l.reverse.dropWhile p).reverse).dropWhile p
  | [] => rfl
  | a :: l => by
    by_cases ha : p a = true
    · rw [List.dropWhile_cons_of_pos ha, drop_rev p l, List.reverse_cons]
      by_cases hall : l.reverse.dropWhile p = []
      · rw [hall]
        have h2 : (l.reverse ++ [a]).dropWhile p = [] := by
          rw [List.dropWhile_append, hall]
          simp [ha]
        rw [h2]
      · have h2 : (l.reverse ++ [a]).dropWhile p = l.reverse.dropWhile p ++ [a] := by
          rw [List.dropWhile_append]
          simp [List.isEmpty_iff, hall]
        rw [h2, List.reverse_append, List.reverse_singleton, List.singleton_append, List.dropWhile_cons_of_pos ha]
    · rw [List.dropWhile_cons_of_neg ha]
      have h2 : ∃ r, ((a :: l).reverse.dropWhile p).reverse = a :: r := by
        rw [List.reverse_cons, List.dropWhile_append]
        by_cases hall : l.reverse.dropWhile p = []
        · rw [hall]; simp [ha]
        · simp [List.isEmpty_iff, hall]
      obtain ⟨r, hr⟩ := h2
      rw [hr, List.dropWhile_cons_of_neg ha]
theorem trim_lib (t : ByteArray) : (⟨(Lib.trimB t.data.toList 32).toArray⟩ : ByteArray) = trimB t := by
  apply ByteArray.ext
  apply Array.toList_inj.1
  show Lib.trimB t.data.toList 32 = (trimB t).data.toList
  unfold trimB Lib.trimB Lib.trimLeftB Lib.trimRightB
  rw [trimR_data, trimL_data, drop_rev]
end Go.Proofs.YthcpmbolnmlohaaDoor
