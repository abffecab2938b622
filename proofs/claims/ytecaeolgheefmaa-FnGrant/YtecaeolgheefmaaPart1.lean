/- 35 of this claim's texts, one behind the other. -/
import Derived.Test.YtecaeolgheefmaaRows
import Derived.Below
import Derived.WalkKit
import Derived.WalkSpells
import Derived.WalkLawsBesides
import Derived.Laws.CopyOwn
import Derived.Lib.BufferWrite
import Derived.Laws.IdiomStrings
import Derived.Deep.RegionHeld3
import Derived.Laws.Bits64
import Derived.Deep.QuietTactic
import Derived.BigQuiet
import Derived.Deep.RegionWith
import Derived.Maps.AppendAt
import Derived.Deep.DeepCutAuto
import Derived.Laws.ResultCell
import Derived.Lib.SmallJoins
import Derived.Deep.Slices
import Derived.Laws.AppendOwn
import Derived.Lib.SlicesCompact
import Derived.Lib.Bytealg
/- Small facts that the walks close with: equal values make equal endings; what lies below a block is as it was. -/
namespace Go.Proofs.Ytecaeolgheefmaa
open Go.RowKit
theorem ret_bool {a b : Bool} (h : a = b) : Ending.returned (.bool a) = .returned (.bool b) := by rw [h]
theorem val_int {k : IntKind} {a b : Int} (h : a = b) : Value.int k a = .int k b := by rw [h]
theorem ret_int {k : IntKind} {a b : Int} (h : a = b) : Ending.returned (.int k a) = .returned (.int k b) := by rw [h]
theorem ret_text {a b : ByteArray} (h : a = b) : Ending.returned (.string a) = .returned (.string b) := by rw [h]
theorem bcell {W w1 : World} (hb : Below W.heap.size W w1) : (∀ b o, b < W.heap.size → w1.cell? ⟨b, o, none⟩ = W.cell? ⟨b, o, none⟩) ∧ (∀ b o, b < W.heap.size → w1.frozen? ⟨b, o, none⟩ = W.frozen? ⟨b, o, none⟩) :=
  ⟨fun b o h => hb.cell (p := ⟨b, o, none⟩) h, fun b o h => hb.frozen (p := ⟨b, o, none⟩) h⟩
theorem own_shape {w : World} {base n : Nat} {e : TypeId} {v : Value} {xs : List Value} (h : w.ownsRow base e 1 v (n + 1) xs) : ∃ g cap, v = .slice (some ⟨g, 0, none⟩) (n + 1) cap := by
  obtain ⟨_, ⟨_, h0⟩ | ⟨g, cap, _, hv, _⟩⟩ := h
  · omega
  · exact ⟨g, cap, hv⟩
end Go.Proofs.Ytecaeolgheefmaa

/- Run equations at rows of bytes that a call makes itself: make, copy from a text, string of a row: each stated at whatever program; the world behind is a letter of which the row and Below are known. -/
namespace Go.Proofs.Ytecaeolgheefmaa
open Go.RowKit

theorem infoU8 : (Try.prog.info? 5).map (fun i => (i.zero, i.size, i.bytes)) = some (some (.int .u8 0), 1, 1) := by kernel_rfl
theorem sizeU8 : (Try.prog.info? 5).map (·.size) = some 1 := by kernel_rfl

/-- the block g holds the cells L, none of them frozen -/
def RowAt (w : World) (g : Nat) (t : TypeId) (L : List Value) : Prop := w.heap[g]? = some (.cells L.toArray t (0, 0))

theorem make_row {P : Program} (w : World) (t e : TypeId) (z : Value) (h1 : P.underlying t = some (.slice e))
    (hi : (P.info? e).map (fun i => (i.zero, i.size, i.bytes)) = some (some z, 1, 1)) (L : Int) (n : Nat) (hL : L = (n : Int)) (b2 : n ≤ 281474976710656) :
    ∃ w' Z, Sem.run P (Instr.makeSlice t (.int .i64 L) (.int .i64 L)) w = .ok (.slice (some ⟨w.heap.size, 0, none⟩) n n) w' ∧
      RowAt w' w.heap.size e Z ∧ Z.length = n ∧ w'.heap.size = w.heap.size + 1 ∧ Below w.heap.size w w' := by
  obtain ⟨i, h2, h3, h4, h5⟩ := info_parts hi
  subst hL
  have hrun := run_make (P := P) w t e i z h1 h2 h3 .i64 .i64 n n (by omega) (Int.le_refl _) (by rw [h5]; omega) (by omega)
  simp only [Int.toNat_natCast, h4, Nat.mul_one] at hrun
  refine ⟨_, (madeCells z.cells n).toList, hrun, ?_, by simp [size_madeCells], by simp, (Below.refl _ _).alloc (Nat.le_refl _) _⟩
  unfold RowAt; rw [heap_alloc_new]

theorem copy_text {P : Program} (w : World) (dT sT ty elem : TypeId) (hu : P.underlying dT = some (.slice elem)) (hsz : (P.info? elem).map (·.size) = some 1)
    (dp : Option Addr) (dLen dCap : Nat) (x : ByteArray) (hle : x.size ≤ dLen)
    (g off : Nat) (cur : List Value) (t : TypeId) (hg : RowAt w g t cur) (hpos : 0 < x.size → dp = some ⟨g, off, none⟩)
    (hfit : off + x.size ≤ cur.length) :
    ∃ w', Sem.run P (Builtin.copy_ #[dT, sT] ty #[.slice dp dLen dCap, .string x]) w = .ok (goInt x.size) w' ∧
      RowAt w' g t (splice cur off (Lib.byteCells x.data.toList)) ∧ w'.heap.size = w.heap.size ∧ (∀ B w0, Below B w0 w → B ≤ g → Below B w0 w') := by
  by_cases h0 : x.size = 0
  · have hrun := Lib.run_copy_empty_string (P := P) w dT sT ty elem dp dLen dCap x hu (by rw [Option.isSome_iff_exists]; exact ⟨1, hsz⟩) h0
    have hnil : x.data.toList = [] := List.eq_nil_of_length_eq_zero (by rw [← Lib.size_eq]; exact h0)
    exact ⟨w, by rw [hrun, h0]; rfl, by rw [hnil]; simpa [splice, Lib.byteCells] using hg, rfl, fun _ _ h _ => h⟩
  · obtain rfl := hpos (by omega)
    have hrun := Lib.run_copy_row_string (P := P) w dT sT ty elem g off dLen dCap x cur.toArray t hu hsz hg hle (by simpa using hfit)
    refine ⟨_, hrun, ?_, by simp [World.setRow], fun B w0 hb hBg => below_setRow hb hBg _⟩
    have := setRow_heap w g _ (List.take off cur ++ (Lib.byteCells x.data.toList ++ List.drop (off + x.size) cur)).toArray t _ hg
    have hl : (Lib.byteCells x.data.toList).length = x.size := by rw [Lib.byteCells_length, ← Lib.size_eq]
    unfold RowAt splice
    rw [hl]
    simpa using this

theorem row_cell {w : World} {g : Nat} {t : TypeId} {L : List Value} (hg : RowAt w g t L) (j : Nat) : w.cell? ⟨g, j, none⟩ = L[j]? := by
  simp [World.cell?, RowAt] at *
  rw [hg]; simp

/-- string(b), b the first n cells of a row whose first cells are the bytes l -/
theorem text_of_row {P : Program} (w : World) (src dst e : TypeId) (hs : P.underlying src = some (.slice e)) (he : P.underlying e = some (.int .u8)) (hd : P.underlying dst = some .string)
    (g n cap : Nat) (t : TypeId) (l : List UInt8) (more : List Value) (hg : RowAt w g t (Lib.byteCells l ++ more)) (hn : l.length = n) :
    Sem.run P (convert src dst (.slice (some ⟨g, 0, none⟩) n cap)) w = .ok (.string ⟨l.toArray⟩) w := by
  subst hn
  refine run_convert_bytes_back (P := P) w src dst e ⟨g, 0, none⟩ cap l hs he hd ?_
  intro j hj
  have ha : (⟨g, 0, none⟩ : Addr).add j = ⟨g, j, none⟩ := by
    unfold Addr.add; split
    · rename_i h; subst h; rfl
    · simp
  rw [ha, row_cell hg, List.getElem?_append_left (by rw [Lib.byteCells_length]; exact hj)]
  simp [Lib.byteCells, hj]

theorem splice_two {α : Type} (Z X Y : List α) (h : Z.length = X.length + Y.length) : splice (splice Z 0 X) X.length Y = X ++ Y := by
  unfold splice
  simp
  omega
theorem byteCells_append (a b : List UInt8) : Lib.byteCells (a ++ b) = Lib.byteCells a ++ Lib.byteCells b := by simp [Lib.byteCells]
theorem text_append (x y : ByteArray) : (⟨(x.data.toList ++ y.data.toList).toArray⟩ : ByteArray) = x ++ y := by
  apply ByteArray.ext; simp
theorem size_list (l : List UInt8) : (⟨l.toArray⟩ : ByteArray).size = l.length := rfl
theorem len_cells (x : ByteArray) : (Lib.byteCells x.data.toList).length = x.size := by rw [Lib.byteCells_length, ← Lib.size_eq]
end Go.Proofs.Ytecaeolgheefmaa

/- The specification's source of draws: what it tells is somewhere in its bounds; it writes into its own block alone. -/
namespace Go.Proofs.Ytecaeolgheefmaa
open Go.RowKit

/-- the bytes of a source: readable, and of a block below g -/
def BytesOf (w : World) (g : Nat) (a : Option Addr) (len : Nat) : Prop := ∀ i, i < len → ∃ (x : Addr) (z : Int), a = some x ∧ x.block < g ∧ w.cell? (x.add i) = some (.int .u8 z) ∧ 0 ≤ z ∧ z < 256
/-- a source of draws lies in block g -/
def SrcAt (w : World) (g : Nat) : Prop :=
  g < w.heap.size ∧ ∃ (a : Option Addr) (len cap at' : Nat) (mix size : Int), (w.cell? ⟨g, 0, none⟩ = some (.slice a len cap) ∧ w.cell? ⟨g, 1, none⟩ = some (.int .i64 at') ∧ w.cell? ⟨g, 2, none⟩ = some (.int .u64 mix) ∧ w.cell? ⟨g, 3, none⟩ = some (.int .i64 size)) ∧
    (0 ≤ mix ∧ mix < 18446744073709551616 ∧ 0 ≤ size ∧ size ≤ 12 ∧ len ≤ 1048576 ∧ at' ≤ len) ∧ (∀ o, w.frozen? ⟨g, o, none⟩ = false) ∧ BytesOf w g a len

theorem setCell_twice (W : World) (p : Addr) (u v : Value) : (W.setCell p u).setCell p v = W.setCell p v := by
  unfold World.setCell
  congr 1
  apply Array.ext
  · simp
  · intro i h1 h2
    simp only [Array.getElem_modify]
    split
    · have hi : i < W.heap.size := by simpa using h2
      cases W.heap[i] with
      | cells c e f => by_cases hs : p.spot.isSome = true <;> simp [hs]
      | _ => rfl
    · rfl
theorem xor_range (a b : Int) : 0 ≤ bits BinOp.xor IntKind.u64 a b ∧ bits BinOp.xor IntKind.u64 a b < 18446744073709551616 := by
  show 0 ≤ IntKind.u64.wrap _ ∧ IntKind.u64.wrap _ < _
  rw [IntKind.wrap_u64]
  exact ⟨Int.emod_nonneg _ (by decide), Int.emod_lt_of_pos _ (by decide)⟩
theorem draw_range (x most : Int) (h1 : 1 < most) (h2 : most < 9223372036854775808) : 0 ≤ wrap64 ((IntKind.u64.wrap x).tmod most) ∧ wrap64 ((IntKind.u64.wrap x).tmod most) < most := by
  rw [IntKind.wrap_u64]
  have h0 : 0 ≤ x % 18446744073709551616 := Int.emod_nonneg _ (by decide)
  generalize x % 18446744073709551616 = y at *
  rw [Int.tmod_eq_emod_of_nonneg h0]
  have a1 := Int.emod_nonneg y (b := most) (by omega)
  have a2 := Int.emod_lt_of_pos y (b := most) (by omega)
  generalize y % most = r at *
  unfold wrap64
  omega
theorem BytesOf.setCell {w : World} {g o : Nat} {a : Option Addr} {len : Nat} (hb : BytesOf w g a len) (v : Value) : BytesOf (w.setCell ⟨g, o, none⟩ v) g a len := by
  intro i hi
  obtain ⟨x, z, e, hx, hc, hz⟩ := hb i hi
  have hxb : (x.add i).block = x.block := by unfold Addr.add; split <;> rfl
  refine ⟨x, z, e, hx, ?_, hz⟩
  rw [World.cell?_setCell_far _ _ _ _ (by rw [hxb]; show g ≠ _; omega)]
  exact hc
theorem grown_setCell {w w' : World} {g o : Nat} (h : w.grownBy w' (some g)) (v : Value) : w.grownBy (w'.setCell ⟨g, o, none⟩ v) (some g) :=
  ⟨h.os, h.tape, h.output, by have := h.size; simp [World.setCell]; omega, fun j hj hne => by
    have hj' : j ≠ g := fun h => hne (by rw [h])
    rw [Below.heap_setCell _ _ _ _ hj']; exact h.block j hj hne⟩
theorem grown_refl (w : World) (r : Option Nat) : w.grownBy w r := ⟨rfl, rfl, rfl, Nat.le_refl _, fun _ _ _ => rfl⟩
/-- a source turned: its place moved on -/
theorem src_on {w : World} {g : Nat} {a : Option Addr} {len cap k k' : Nat} {mix size : Int} (hg : g < w.heap.size)
    (c0 : w.cell? ⟨g, 0, none⟩ = some (.slice a len cap)) (c1 : w.cell? ⟨g, 1, none⟩ = some (.int .i64 k)) (c2 : w.cell? ⟨g, 2, none⟩ = some (.int .u64 mix)) (c3 : w.cell? ⟨g, 3, none⟩ = some (.int .i64 size))
    (m0 : 0 ≤ mix) (m1 : mix < 18446744073709551616) (hs0 : 0 ≤ size) (hs1 : size ≤ 12) (hl : len ≤ 1048576) (hk : k' ≤ len) (hf : ∀ o, w.frozen? ⟨g, o, none⟩ = false) (hb : BytesOf w g a len) :
    SrcAt (w.setCell ⟨g, 1, none⟩ (.int .i64 k')) g := by
  refine ⟨by simpa [World.setCell] using hg, a, len, cap, k', mix, size, ⟨?_, ?_, ?_, ?_⟩, ⟨m0, m1, hs0, hs1, hl, hk⟩, ?_, hb.setCell _⟩
  · rw [World.cell?_setCell_other _ _ _ _ (by simp)]; exact c0
  · exact World.cell?_setCell_same _ _ _ c1
  · rw [World.cell?_setCell_other _ _ _ _ (by simp)]; exact c2
  · rw [World.cell?_setCell_other _ _ _ _ (by simp)]; exact c3
  · intro o; rw [World.frozen?_setCell]; exact hf o
/-- a source turned: its mix another one -/
theorem src_mix {w : World} {g : Nat} {M : Int} (h : SrcAt w g) (hM : 0 ≤ M ∧ M < 18446744073709551616) : SrcAt (w.setCell ⟨g, 2, none⟩ (.int .u64 M)) g := by
  obtain ⟨hg, a, len, cap, k, mix, size, ⟨c0, c1, c2, c3⟩, ⟨m0, m1, s0, s1, hl, hk⟩, hf, hb⟩ := h
  refine ⟨by simpa [World.setCell] using hg, a, len, cap, k, M, size, ⟨?_, ?_, ?_, ?_⟩, ⟨hM.1, hM.2, s0, s1, hl, hk⟩, ?_, hb.setCell _⟩
  · rw [World.cell?_setCell_other _ _ _ _ (by simp)]; exact c0
  · rw [World.cell?_setCell_other _ _ _ _ (by simp)]; exact c1
  · exact World.cell?_setCell_same _ _ _ c2
  · rw [World.cell?_setCell_other _ _ _ _ (by simp)]; exact c3
  · intro o; rw [World.frozen?_setCell]; exact hf o
theorem SrcAt.drew {w : World} {g : Nat} (h : SrcAt w g) : SrcAt w.drew g := h
theorem grown_drew {w w' : World} {r : Option Nat} (h : w.grownBy w' r) : w.grownBy w'.drew r := ⟨h.os, h.tape, h.output, h.size, h.block⟩

set_option maxRecDepth 10000 in
set_option maxHeartbeats 1000000 in
theorem srcN_any (g : Nat) (most : Int) (w : World) (hs : SrcAt w g) (hm : most < 9223372036854775808) :
    Calls Try.prog 78 #[.pointer (some ⟨g, 0, none⟩), .int .i64 most] w fun e w' => ∃ r : Int, e = .returned (.int .i64 r) ∧ 0 ≤ r ∧ (1 < most → r < most) ∧ (most ≤ 1 → r = 0) ∧ SrcAt w' g ∧ w.grownBy w' (some g) := by
  have HS : Hid (SrcAt w g) := hs
  obtain ⟨hg, a, len, cap, k, mix, size, ⟨c0, c1, c2, c3⟩, ⟨m0, m1, s0, s1, hl, hk⟩, hf, hb⟩ := hs
  have hcc : ∀ (W : World) (p : Addr) (u v : Value), (W.setCell p u).setCell p v = W.setCell p v := setCell_twice
  by_cases h1 : most ≤ 1
  · go_enter Try.func78, Try.ntmps78
    go_wp2
    go_ret
    exact ⟨0, rfl, Int.le_refl _, fun h => absurd h (by omega), fun _ => rfl, HS.out, ⟨rfl, rfl, rfl, Nat.le_refl _, fun _ _ _ => rfl⟩⟩
  have q1 : decide (most ≤ 1) = false := by rw [decide_eq_false_iff_not]; exact h1
  by_cases hlt : k < len
  · obtain ⟨x, z, rfl, hx, hz, z0, z1⟩ := hb k hlt
    have k0 : (0 : Int) ≤ k := by omega
    have k1 : (k : Int) < (len : Int) := by omega
    have HBy : Hid (BytesOf w g (some x) len) := hb
    clear hb
    go_enter Try.func78, Try.ntmps78
    go_wp2
    go_region
    go_wp2
    go_region
    go_wp2
    go_region
    go_wp2
    go_region
    go_wp2
    go_region
    go_wp2
    go_ret
    exact ⟨_, rfl, (draw_range _ most h1 hm).1, fun _ => (draw_range _ most h1 hm).2, fun h => absurd h (by omega),
      src_mix (src_on (k' := k + 1) hg c0 c1 c2 c3 m0 m1 s0 s1 hl (by omega) hf HBy.out) (xor_range _ _), grown_drew (grown_drew (grown_drew (grown_drew (grown_drew (grown_setCell (grown_setCell (grown_refl _ _) _) _)))))⟩
  · have HBy : Hid (BytesOf w g a len) := hb
    clear hb
    go_enter Try.func78, Try.ntmps78
    go_wp2
    go_region
    go_wp2
    go_region
    go_wp2
    go_region
    go_wp2
    go_region
    go_wp2
    go_ret
    exact ⟨_, rfl, (draw_range _ most h1 hm).1, fun _ => (draw_range _ most h1 hm).2, fun h => absurd h (by omega),
      src_mix HS.out (xor_range _ _), grown_drew (grown_drew (grown_drew (grown_drew (grown_setCell (grown_refl _ _) _))))⟩
end Go.Proofs.Ytecaeolgheefmaa

/- A number's digits, as a plain function. -/
namespace Go.Proofs.Ytecaeolgheefmaa
open Go.RowKit
/-- the digits of m, none of 0; f: more than enough rounds -/
def decF : Nat → Nat → List UInt8
  | 0, _ => []
  | f + 1, m => if m = 0 then [] else decF f (m / 10) ++ [UInt8.ofNat (48 + m % 10)]
def decA (m : Nat) : List UInt8 := decF m m
theorem decF_enough (f : Nat) : ∀ g m, m ≤ f → m ≤ g → decF f m = decF g m := by
  induction f with
  | zero =>
    intro g m hf _
    obtain rfl : m = 0 := by omega
    cases g with
    | zero => rfl
    | succ g => rw [decF, decF, if_pos rfl]
  | succ f ih =>
    intro g m hf hg
    cases g with
    | zero =>
      obtain rfl : m = 0 := by omega
      rw [decF, decF, if_pos rfl]
    | succ g =>
      rw [decF, decF]
      split
      · rfl
      · rw [ih g (m / 10) (by omega) (by omega)]
theorem decA_zero : decA 0 = [] := rfl
theorem decA_pos {m : Nat} (h : 0 < m) : decA m = decA (m / 10) ++ [UInt8.ofNat (48 + m % 10)] := by
  unfold decA
  cases m with
  | zero => omega
  | succ m => rw [decF, if_neg (by omega), decF_enough m ((m + 1) / 10) ((m + 1) / 10) (by omega) (by omega)]
theorem decA_len (k : Nat) : ∀ m, m < 10 ^ k → (decA m).length ≤ k := by
  induction k with
  | zero => intro m h; obtain rfl : m = 0 := by simpa using h
            exact Nat.le_refl _
  | succ k ih =>
    intro m h
    by_cases h0 : m = 0
    · subst h0; rw [decA_zero]; simp
    · rw [decA_pos (by omega)]
      have := ih (m / 10) (by rw [Nat.div_lt_iff_lt_mul (by omega)]; rw [Nat.pow_succ] at h; omega)
      simp; omega
theorem decA_twenty {m : Nat} (h : m ≤ 9223372036854775808) : (decA m).length ≤ 20 := decA_len 20 m (Nat.lt_of_le_of_lt h (by decide))
/-- the digits of a number, a sign ahead of one below 0 -/
def decB (n : Int) : ByteArray := if n = 0 then ⟨#[48]⟩ else if n < 0 then ⟨#[45]⟩ ++ ⟨(decA n.natAbs).toArray⟩ else ⟨(decA n.natAbs).toArray⟩
theorem dec_step {m m0 : Nat} {o : List UInt8} (h : decA m ++ o = decA m0) (hm : 0 < m) : decA (m / 10) ++ (UInt8.ofNat (48 + m % 10) :: o) = decA m0 := by
  rw [← h, decA_pos hm]; simp
theorem one_row (k : Nat) (w : World) (t : TypeId) (hk : k < 256) : RowAt (w.alloc (.cells #[.int .u8 (k : Int)] t)) w.heap.size t (Lib.byteCells [UInt8.ofNat k] ++ []) := by
  unfold RowAt; rw [heap_alloc_new]
  simp [Lib.byteCells]
  omega
theorem cons_text (b : UInt8) (o : List UInt8) : (⟨[b].toArray⟩ : ByteArray) ++ ⟨o.toArray⟩ = ⟨(b :: o).toArray⟩ := by
  apply ByteArray.ext; simp
end Go.Proofs.Ytecaeolgheefmaa

/- The walk of the specification's l01Dec: a number's digits. -/
namespace Go.Proofs.Ytecaeolgheefmaa
open Go.RowKit

set_option maxRecDepth 10000 in
set_option maxHeartbeats 400000 in
theorem specDec_zero (w : World) :
    Calls Try.prog 81 #[.int .i64 0] w fun e w' => e = .returned (.string (decB 0)) ∧ Below w.heap.size w w' := by
  go_enter Try.func81, Try.ntmps81
  go_wp2
  go_ret
  exact ⟨rfl, Below.refl _ _⟩

set_option maxRecDepth 10000 in
set_option maxHeartbeats 400000 in
theorem specDec_pos (n : Nat) (w : World) (hn : 0 < n) (hm : n ≤ 9223372036854775807) :
    Calls Try.prog 81 #[.int .i64 ((n : Int))] w fun e w' => e = .returned (.string (decB ((n : Int)))) ∧ Below w.heap.size w w' := by
  have q1 : (((n : Int)) == 0) = false := by rw [beq_eq_false_iff_ne]; omega
  have q2 : decide ((n : Int) < 0) = false := by rw [decide_eq_false_iff_not]; omega
  have HD : Hid (decB n = ⟨(decA n).toArray⟩) := by
    show _ = _
    rw [decB, if_neg (by omega), if_neg (by omega)]; rfl
  have hl := decA_twenty (m := n) (by omega)
  go_enter Try.func81, Try.ntmps81
  go_wp2
  go_loopw [0, 4, 5] (fun x o _ wr => ∃ (m : Nat) (z : Int) (l : List UInt8), m ≤ n ∧ x = .int .i64 z ∧ z = (m : Int) ∧ o = .string ⟨l.toArray⟩ ∧ Hid (decA m ++ l = decA n) ∧ Below w.heap.size w wr) (fun x _ _ _ => (intOf x).natAbs)
  case atStart => exact ⟨n, _, [], Nat.le_refl _, rfl, rfl, rfl, List.append_nil _, Below.refl _ _⟩
  case round =>
    obtain ⟨m, z, l, hmn, rfl, rfl, rfl, HL, hb⟩ := hrel
    have hll : l.length ≤ 20 := by
      have := congrArg List.length HL.out
      rw [List.length_append] at this; omega
    have hbs := hb.size
    by_cases h0 : 0 < m
    · have q3 : (((m : Int)) != 0) = true := by rw [bne_iff_ne]; omega
      have hsz : (⟨l.toArray⟩ : ByteArray).size ≤ 20 := hll
      have hr : RowAt (wr.alloc (.cells #[.int .u8 (48 + (m : Int) % 10)] 5)) wr.heap.size 5 (Lib.byteCells [UInt8.ofNat (48 + m % 10)] ++ []) := by
        rw [show (48 + (m : Int) % 10) = ((48 + m % 10 : Nat) : Int) by omega]; exact one_row _ wr _ (by omega)
      have HS : Hid (decA (m / 10) ++ (UInt8.ofNat (48 + m % 10) :: l) = decA n) := dec_step HL.out h0
      have HT : Hid ((⟨[UInt8.ofNat (48 + m % 10)].toArray⟩ : ByteArray) ++ ⟨l.toArray⟩ = ⟨(UInt8.ofNat (48 + m % 10) :: l).toArray⟩) := cons_text _ _
      have hone : (⟨[UInt8.ofNat (48 + m % 10)].toArray⟩ : ByteArray).size ≤ 1 := Nat.le_refl _
      have q4 : decide ((m : Int) % 10 < 0) = false := by rw [decide_eq_false_iff_not]; omega
      go_wp2_with fail
      rw [text_of_row (P := Try.prog) _ 22 9 5 Try.underlying22 Try.underlying5 Try.underlying9 wr.heap.size 1 1 5 _ _ hr rfl]
      clear hr
      generalize (⟨[UInt8.ofNat (48 + m % 10)].toArray⟩ : ByteArray) = b1 at *
      generalize (⟨l.toArray⟩ : ByteArray) = o1 at *
      have hb2 : Below w.heap.size w (wr.alloc (.cells #[.int .u8 (48 + (m : Int) % 10)] 5)) := hb.alloc hbs _
      go_wp2
      go_roundw
      case rel => exact ⟨m / 10, _, UInt8.ofNat (48 + m % 10) :: l, by omega, rfl, by omega, by rw [HT.out], HS, hb2⟩
      case measure => simp [intOf]; omega
    · obtain rfl : m = 0 := by omega
      have HE : Hid (l = decA n) := by
        show _ = _
        rw [← HL.out, decA_zero]; rfl
      go_wp2
      go_ret
      exact ⟨ret_text (by rw [HD.out, HE.out]), hb⟩

set_option maxRecDepth 10000 in
set_option maxHeartbeats 400000 in
theorem specDec_neg (n : Nat) (w : World) (hn : 0 < n) (hm : n ≤ 9223372036854775808) :
    Calls Try.prog 81 #[.int .i64 (-(n : Int))] w fun e w' => e = .returned (.string (decB (-(n : Int)))) ∧ Below w.heap.size w w' := by
  have q1 : ((-(n : Int)) == 0) = false := by rw [beq_eq_false_iff_ne]; omega
  have q2 : -(n : Int) < 0 := by omega
  have HD : Hid (decB (-(n : Int)) = ⟨#[45]⟩ ++ ⟨(decA n).toArray⟩) := by
    show _ = _
    rw [decB, if_neg (by omega), if_pos (by omega), show (-(n : Int)).natAbs = n by omega]
  have hl := decA_twenty (m := n) (by omega)
  go_enter Try.func81, Try.ntmps81
  go_wp2
  go_loopw [0, 4, 5] (fun x o _ wr => ∃ (m : Nat) (z : Int) (l : List UInt8), m ≤ n ∧ x = .int .i64 z ∧ z = -(m : Int) ∧ o = .string ⟨l.toArray⟩ ∧ Hid (decA m ++ l = decA n) ∧ Below w.heap.size w wr) (fun x _ _ _ => (intOf x).natAbs)
  case atStart => exact ⟨n, _, [], Nat.le_refl _, rfl, rfl, rfl, List.append_nil _, Below.refl _ _⟩
  case round =>
    obtain ⟨m, z, l, hmn, rfl, rfl, rfl, HL, hb⟩ := hrel
    have hll : l.length ≤ 20 := by
      have := congrArg List.length HL.out
      rw [List.length_append] at this; omega
    have hbs := hb.size
    by_cases h0 : 0 < m
    · have q3 : ((-(m : Int)) != 0) = true := by rw [bne_iff_ne]; omega
      have hsz : (⟨l.toArray⟩ : ByteArray).size ≤ 20 := hll
      by_cases h10 : 0 < m % 10
      · have q5 : (0 : Int) < (m : Int) % 10 := by omega
        have hr : RowAt (wr.alloc (.cells #[.int .u8 (48 + (m : Int) % 10)] 5)) wr.heap.size 5 (Lib.byteCells [UInt8.ofNat (48 + m % 10)] ++ []) := by
          rw [show (48 + (m : Int) % 10 : Int) = ((48 + m % 10 : Nat) : Int) by omega]; exact one_row _ wr _ (by omega)
        have hb2 : Below w.heap.size w (wr.alloc (.cells #[.int .u8 (48 + (m : Int) % 10)] 5)) := hb.alloc hbs _
        have HS : Hid (decA (m / 10) ++ (UInt8.ofNat (48 + m % 10) :: l) = decA n) := dec_step HL.out h0
        have HT : Hid ((⟨[UInt8.ofNat (48 + m % 10)].toArray⟩ : ByteArray) ++ ⟨l.toArray⟩ = ⟨(UInt8.ofNat (48 + m % 10) :: l).toArray⟩) := cons_text _ _
        have hone : (⟨[UInt8.ofNat (48 + m % 10)].toArray⟩ : ByteArray).size ≤ 1 := Nat.le_refl _
        go_wp2_with fail
        rw [text_of_row (P := Try.prog) _ 22 9 5 Try.underlying22 Try.underlying5 Try.underlying9 wr.heap.size 1 1 5 _ _ hr rfl]
        clear hr
        generalize (⟨[UInt8.ofNat (48 + m % 10)].toArray⟩ : ByteArray) = b1 at *
        generalize (⟨l.toArray⟩ : ByteArray) = o1 at *
        go_wp2
        go_roundw
        case rel => exact ⟨m / 10, _, UInt8.ofNat (48 + m % 10) :: l, by omega, rfl, by omega, by rw [HT.out], HS, hb2⟩
        case measure => simp [intOf]; omega
      · have e10 : (m : Int) % 10 = 0 := by omega
        have q5 : decide ((0 : Int) < (m : Int) % 10) = false := by rw [decide_eq_false_iff_not]; omega
        have hr : RowAt (wr.alloc (.cells #[.int .u8 (48)] 5)) wr.heap.size 5 (Lib.byteCells [UInt8.ofNat (48 + m % 10)] ++ []) := by
          rw [show (48 : Int) = ((48 + m % 10 : Nat) : Int) by omega]; exact one_row _ wr _ (by omega)
        have hb2 : Below w.heap.size w (wr.alloc (.cells #[.int .u8 (48)] 5)) := hb.alloc hbs _
        have HS : Hid (decA (m / 10) ++ (UInt8.ofNat (48 + m % 10) :: l) = decA n) := dec_step HL.out h0
        have HT : Hid ((⟨[UInt8.ofNat (48 + m % 10)].toArray⟩ : ByteArray) ++ ⟨l.toArray⟩ = ⟨(UInt8.ofNat (48 + m % 10) :: l).toArray⟩) := cons_text _ _
        have hone : (⟨[UInt8.ofNat (48 + m % 10)].toArray⟩ : ByteArray).size ≤ 1 := Nat.le_refl _
        go_wp2_with fail
        rw [text_of_row (P := Try.prog) _ 22 9 5 Try.underlying22 Try.underlying5 Try.underlying9 wr.heap.size 1 1 5 _ _ hr rfl]
        clear hr
        generalize (⟨[UInt8.ofNat (48 + m % 10)].toArray⟩ : ByteArray) = b1 at *
        generalize (⟨l.toArray⟩ : ByteArray) = o1 at *
        go_wp2
        go_roundw
        case rel => exact ⟨m / 10, _, UInt8.ofNat (48 + m % 10) :: l, by omega, rfl, by omega, by rw [HT.out], HS, hb2⟩
        case measure => simp [intOf]; omega
    · obtain rfl : m = 0 := by omega
      have HE : Hid (l = decA n) := by
        show _ = _
        rw [← HL.out, decA_zero]; rfl
      have hsz : (⟨l.toArray⟩ : ByteArray).size ≤ 20 := hll
      have HD2 : Hid (decB (-(n : Int)) = ⟨#[45]⟩ ++ ⟨l.toArray⟩) := by
        show _ = _
        rw [HD.out, HE.out]
      clear hll
      generalize (⟨l.toArray⟩ : ByteArray) = o1 at *
      go_wp2
      go_ret
      exact ⟨ret_text HD2.out.symm, hb⟩

end Go.Proofs.Ytecaeolgheefmaa

/- Rows of texts that a law reads, marks and reads again; the marks' texts. -/
namespace Go.Proofs.Ytecaeolgheefmaa
open Go.RowKit

/-- the mark of a number above 0 -/
def markT (k : Nat) : ByteArray := ⟨#[109]⟩ ++ ⟨(decA k).toArray⟩

/-- a slice of n texts, f of each place, that lies from block B on -/
def SliceS (w : World) (B : Nat) (v : Value) (n : Nat) (f : Nat → ByteArray) : Prop :=
  ∃ p cap, v = .slice p n cap ∧ (0 < n → ∃ g, p = some ⟨g, 0, none⟩ ∧ B ≤ g ∧ g < w.heap.size ∧ ∀ j, j < n → w.cell? ⟨g, j, none⟩ = some (.string (f j)) ∧ w.frozen? ⟨g, j, none⟩ = false)
theorem SliceS.below {w w' : World} {B n : Nat} {v : Value} {f : Nat → ByteArray} (h : SliceS w B v n f) (hb : Below w.heap.size w w') : SliceS w' B v n f := by
  obtain ⟨p, cap, rfl, h⟩ := h
  refine ⟨p, cap, rfl, fun hn => ?_⟩
  obtain ⟨g, rfl, hB, hg, hc⟩ := h hn
  have hs := hb.size
  refine ⟨g, rfl, hB, by omega, fun j hj => ⟨?_, ?_⟩⟩
  · rw [(bcell hb).1 _ _ hg]; exact (hc j hj).1
  · rw [(bcell hb).2 _ _ hg]; exact (hc j hj).2
/-- a row below B stays while rows from B on are written -/
theorem SliceS.kept {w w' : World} {B B' n : Nat} {v : Value} {f : Nat → ByteArray} (h : SliceS w B v n f) (hb : Below B' w w') (hlt : ∀ g cap m, v = .slice (some ⟨g, 0, none⟩) m cap → g < B') : SliceS w' B v n f := by
  obtain ⟨p, cap, rfl, h⟩ := h
  refine ⟨p, cap, rfl, fun hn => ?_⟩
  obtain ⟨g, rfl, hB, hg, hc⟩ := h hn
  have hs := hb.size
  have hl := hlt g cap n rfl
  refine ⟨g, rfl, hB, by omega, fun j hj => ⟨?_, ?_⟩⟩
  · rw [hb.cell (p := ⟨g, j, none⟩) hl]; exact (hc j hj).1
  · rw [hb.frozen (p := ⟨g, j, none⟩) hl]; exact (hc j hj).2
theorem SliceS.lt {w : World} {B n : Nat} {v : Value} {f : Nat → ByteArray} (h : SliceS w B v (n + 1) f) : ∀ g cap m, v = .slice (some ⟨g, 0, none⟩) m cap → g < w.heap.size := by
  obtain ⟨p, cap, rfl, h⟩ := h
  obtain ⟨g, rfl, hB, hg, hc⟩ := h (by omega)
  intro g' cap' m e
  injection e with e1
  injection e1 with e1
  injection e1 with e1
  omega
theorem SliceS.mono {w : World} {B B' n : Nat} {v : Value} {f : Nat → ByteArray} (h : SliceS w B v n f) (hB : B' ≤ B) : SliceS w B' v n f := by
  obtain ⟨p, cap, rfl, h⟩ := h
  refine ⟨p, cap, rfl, fun hn => ?_⟩
  obtain ⟨g, rfl, h1, h2⟩ := h hn
  exact ⟨g, rfl, by omega, h2⟩

set_option maxRecDepth 10000 in
set_option maxHeartbeats 400000 in
theorem markText_any (n : Nat) (w : World) (hn : 0 < n) (hm : n ≤ 9223372036854775807) :
    Calls Try.prog 72 #[.int .i64 (n : Int)] w fun e w' => e = .returned (.string (markT n)) ∧ Below w.heap.size w w' := by
  have q2 : decide (n = 0) = false := by rw [decide_eq_false_iff_not]; omega
  have q3 : ¬ n = 0 := by omega
  have hl := decA_twenty (m := n) (by omega)
  go_enter Try.func72, Try.ntmps72
  go_wp2
  go_loopw [0, 3] (fun x o wr => ∃ (m : Nat) (z : Int) (l : List UInt8), m ≤ n ∧ x = .int .i64 z ∧ z = (m : Int) ∧ o = .string ⟨l.toArray⟩ ∧ Hid (decA m ++ l = decA n) ∧ Below w.heap.size w wr) (fun x _ _ => (intOf x).natAbs)
  case atStart => exact ⟨n, _, [], Nat.le_refl _, rfl, rfl, rfl, List.append_nil _, Below.refl _ _⟩
  case round =>
    obtain ⟨m, z, l, hmn, rfl, rfl, rfl, HL, hb⟩ := hrel
    have hll : l.length ≤ 20 := by
      have := congrArg List.length HL.out
      rw [List.length_append] at this; omega
    have hbs := hb.size
    by_cases h0 : 0 < m
    · have hsz : (⟨l.toArray⟩ : ByteArray).size ≤ 20 := hll
      have hr : RowAt (wr.alloc (.cells #[.int .u8 (48 + (m : Int) % 10)] 5)) wr.heap.size 5 (Lib.byteCells [UInt8.ofNat (48 + m % 10)] ++ []) := by
        rw [show (48 + (m : Int) % 10) = ((48 + m % 10 : Nat) : Int) by omega]; exact one_row _ wr _ (by omega)
      have HS : Hid (decA (m / 10) ++ (UInt8.ofNat (48 + m % 10) :: l) = decA n) := dec_step HL.out h0
      have HT : Hid ((⟨[UInt8.ofNat (48 + m % 10)].toArray⟩ : ByteArray) ++ ⟨l.toArray⟩ = ⟨(UInt8.ofNat (48 + m % 10) :: l).toArray⟩) := cons_text _ _
      have hone : (⟨[UInt8.ofNat (48 + m % 10)].toArray⟩ : ByteArray).size ≤ 1 := Nat.le_refl _
      go_wp2_with fail
      rw [text_of_row (P := Try.prog) _ 22 9 5 Try.underlying22 Try.underlying5 Try.underlying9 wr.heap.size 1 1 5 _ _ hr rfl]
      clear hr
      generalize (⟨[UInt8.ofNat (48 + m % 10)].toArray⟩ : ByteArray) = b1 at *
      generalize (⟨l.toArray⟩ : ByteArray) = o1 at *
      have hb2 : Below w.heap.size w (wr.alloc (.cells #[.int .u8 (48 + (m : Int) % 10)] 5)) := hb.alloc hbs _
      go_wp2
      go_roundw
      case rel => exact ⟨m / 10, _, UInt8.ofNat (48 + m % 10) :: l, by omega, rfl, by omega, by rw [HT.out], HS, hb2⟩
      case measure => simp [intOf]; omega
    · obtain rfl : m = 0 := by omega
      have HE : Hid (markT n = ⟨#[109]⟩ ++ ⟨l.toArray⟩) := by
        show _ = _
        rw [markT, ← HL.out, decA_zero]; rfl
      have hsz : (⟨l.toArray⟩ : ByteArray).size ≤ 20 := hll
      clear hll
      generalize (⟨l.toArray⟩ : ByteArray) = o1 at *
      go_wp2
      go_ret
      exact ⟨ret_text HE.out.symm, hb⟩
end Go.Proofs.Ytecaeolgheefmaa

/- More of the specification's source of draws: one of so many, one of some texts, a source from bytes. -/
namespace Go.Proofs.Ytecaeolgheefmaa
open Go.RowKit

set_option maxRecDepth 10000 in
set_option maxHeartbeats 400000 in
theorem srcOne_any (g : Nat) (most : Int) (w : World) (hs : SrcAt w g) (hm : most < 9223372036854775808) :
    Calls Try.prog 52 #[.pointer (some ⟨g, 0, none⟩), .int .i64 most] w fun e w' => (∃ b : Bool, e = .returned (.bool b)) ∧ SrcAt w' g ∧ w.grownBy w' (some g) := by
  have HN : Hid (Calls Try.prog 78 #[.pointer (some ⟨g, 0, none⟩), .int .i64 most] w fun e w' => ∃ r : Int, e = .returned (.int .i64 r) ∧ 0 ≤ r ∧ (1 < most → r < most) ∧ (most ≤ 1 → r = 0) ∧ SrcAt w' g ∧ w.grownBy w' (some g)) := srcN_any g most w hs hm
  clear hs
  go_enter Try.func52, Try.ntmps52
  go_wp2_with fail
  refine HN.out.mono ?_
  rintro e w1 ⟨r, rfl, _, _, _, h1, h2⟩
  go_wp2
  go_ret
  exact ⟨⟨_, rfl⟩, h1, h2⟩

/-- a row of texts in block h -/
def TextsAt (w : World) (h n : Nat) (f : Nat → ByteArray) : Prop := ∀ j, j < n → w.cell? ⟨h, j, none⟩ = some (.string (f j))
theorem TextsAt.kept {w w' : World} {h n : Nat} {f : Nat → ByteArray} {r : Option Nat} (ht : TextsAt w h n f) (hg : w.grownBy w' r) (hne : some h ≠ r) : TextsAt w' h n f :=
  fun j hj => hg.cell (a := ⟨h, j, none⟩) (ht j hj) hne

set_option maxRecDepth 10000 in
set_option maxHeartbeats 400000 in
theorem srcPick_any (g h n cap : Nat) (f : Nat → ByteArray) (w : World) (hs : SrcAt w g) (ht : TextsAt w h (n + 2) f) (hne : h ≠ g) (hn : n ≤ 1048576) :
    Calls Try.prog 79 #[.pointer (some ⟨g, 0, none⟩), .slice (some ⟨h, 0, none⟩) (n + 2) cap] w fun e w' => (∃ j, j < n + 2 ∧ e = .returned (.string (f j))) ∧ SrcAt w' g ∧ w.grownBy w' (some g) := by
  have HN : Hid (Calls Try.prog 78 #[.pointer (some ⟨g, 0, none⟩), .int .i64 ((n : Int) + 2)] w fun e w' => ∃ r : Int, e = .returned (.int .i64 r) ∧ 0 ≤ r ∧ (1 < (n : Int) + 2 → r < (n : Int) + 2) ∧ ((n : Int) + 2 ≤ 1 → r = 0) ∧ SrcAt w' g ∧ w.grownBy w' (some g)) := srcN_any g _ w hs (by omega)
  have HT : Hid (TextsAt w h (n + 2) f) := ht
  clear hs ht
  go_enter Try.func79, Try.ntmps79
  go_wp2_with fail
  refine HN.out.mono ?_
  rintro e w1 ⟨r, rfl, r0, r1, _, h1, h2⟩
  have r2 := r1 (by omega)
  obtain ⟨j, rfl⟩ : ∃ j : Nat, r = j := ⟨r.toNat, by omega⟩
  have hj : j < n + 2 := by omega
  have hc := HT.out.kept h2 (by simpa using hne) j hj
  clear r1
  go_wp2
  go_ret
  exact ⟨⟨j, hj, rfl⟩, h1, h2⟩

/-- the bytes that a source is made from -/
def CodeRow (w : World) (a : Option Addr) (len : Nat) : Prop := ∀ i, i < len → ∃ (x : Addr) (z : Int), a = some x ∧ x.block < w.heap.size ∧ w.cell? (x.add i) = some (.int .u8 z) ∧ 0 ≤ z ∧ z < 256
theorem add_block (x : Addr) (i : Nat) : (x.add i).block = x.block := by unfold Addr.add; split <;> rfl
theorem CodeRow.bytes {w w' : World} {a : Option Addr} {len : Nat} (h : CodeRow w a len) (hb : Below w.heap.size w w') : BytesOf w' w.heap.size a len := by
  intro i hi
  obtain ⟨x, z, e, hx, hc, hz⟩ := h i hi
  exact ⟨x, z, e, by omega, by rw [hb.cell (p := x.add i) (by rw [add_block]; exact hx)]; exact hc, hz⟩

theorem wrap_range (x : Int) : 0 ≤ IntKind.u64.wrap x ∧ IntKind.u64.wrap x < 18446744073709551616 := by
  rw [IntKind.wrap_u64]
  exact ⟨Int.emod_nonneg _ (by decide), Int.emod_lt_of_pos _ (by decide)⟩
theorem src_size {w : World} {g : Nat} {a : Option Addr} {len cap : Nat} {mix size size' : Int} (hg : g < w.heap.size)
    (c0 : w.cell? ⟨g, 0, none⟩ = some (.slice a len cap)) (c1 : w.cell? ⟨g, 1, none⟩ = some (.int .i64 0)) (c2 : w.cell? ⟨g, 2, none⟩ = some (.int .u64 mix)) (c3 : w.cell? ⟨g, 3, none⟩ = some (.int .i64 size))
    (m0 : 0 ≤ mix) (m1 : mix < 18446744073709551616) (hs0 : 0 ≤ size') (hs1 : size' ≤ 12) (hl : len ≤ 1048576) (hf : ∀ o, w.frozen? ⟨g, o, none⟩ = false) (hb : BytesOf w g a len) :
    SrcAt (w.setCell ⟨g, 3, none⟩ (.int .i64 size')) g := by
  refine ⟨by simpa [World.setCell] using hg, a, len, cap, 0, mix, size', ⟨?_, ?_, ?_, ?_⟩, ⟨m0, m1, hs0, hs1, hl, Nat.zero_le _⟩, ?_, hb.setCell _⟩
  · rw [World.cell?_setCell_other _ _ _ _ (by simp)]; exact c0
  · rw [World.cell?_setCell_other _ _ _ _ (by simp)]; exact c1
  · rw [World.cell?_setCell_other _ _ _ _ (by simp)]; exact c2
  · exact World.cell?_setCell_same _ _ _ c3
  · intro o; rw [World.frozen?_setCell]; exact hf o

set_option maxRecDepth 10000 in
set_option maxHeartbeats 1000000 in
theorem source_any (a : Option Addr) (len cap : Nat) (w : World) (hr : CodeRow w a len) (hl : len ≤ 1048576) :
    Calls Try.prog 49 #[.slice a len cap] w fun e w' => e = .returned (.pointer (some ⟨w.heap.size, 0, none⟩)) ∧ SrcAt w' w.heap.size ∧ Below w.heap.size w w' := by
  have HR : Hid (CodeRow w a len) := hr
  clear hr
  have hcc : ∀ (W : World) (p : Addr) (u v : Value), (W.setCell p u).setCell p v = W.setCell p v := setCell_twice
  go_enter Try.func49, Try.ntmps49
  go_wp2
  go_loopw [4] (fun i wr => ∃ (k : Nat) (mix : Int), k ≤ len ∧ i = .int .i64 k ∧ w.heap.size < wr.heap.size ∧ (wr.cell? ⟨w.heap.size, 0, none⟩ = some (.slice a len cap) ∧ wr.cell? ⟨w.heap.size, 1, none⟩ = some (.int .i64 0) ∧ wr.cell? ⟨w.heap.size, 2, none⟩ = some (.int .u64 mix) ∧ wr.cell? ⟨w.heap.size, 3, none⟩ = some (.int .i64 0)) ∧ 0 ≤ mix ∧ mix < 18446744073709551616 ∧ (∀ o, wr.frozen? ⟨w.heap.size, o, none⟩ = false) ∧ Below w.heap.size w wr) (fun i _ => len - (intOf i).toNat)
  case atStart => exact ⟨0, 88172645463325252, by omega, rfl, by simp, ⟨by simp, by simp, by simp, by simp⟩, by decide, by decide, by simp, (Below.refl _ _).alloc (Nat.le_refl _) _⟩
  case round =>
    obtain ⟨k, mix, hk, rfl, hz, ⟨c0, c1, c2, c3⟩, m0, m1, hf, hb⟩ := hrel
    have HBy : Hid (BytesOf wr w.heap.size a len) := HR.out.bytes hb
    have HB : Hid (Below w.heap.size w wr) := hb
    clear hb
    by_cases hgo : k < len ∧ k < 64
    · obtain ⟨h1, h2⟩ := hgo
      obtain ⟨x, z, rfl, hx, hzc, z0, z1⟩ := HBy.out k h1
      have k0 : (0 : Int) ≤ k := by omega
      have k1 : (k : Int) < (len : Int) := by omega
      have q2 : (k : Int) < 64 := by omega
      go_wp2
      go_region
      go_wp2
      go_roundw
      case rel =>
        refine ⟨k + 1, IntKind.u64.wrap (bits BinOp.xor IntKind.u64 mix z * 1099511628211), by omega, by go_num, ?_, ⟨?_, ?_, ?_, ?_⟩, ?_, ?_, ?_, ?_⟩
        · simpa [World.setCell] using hz
        · exact (World.cell?_setCell_other _ _ _ _ (by simp)).trans c0
        · exact (World.cell?_setCell_other _ _ _ _ (by simp)).trans c1
        · exact World.cell?_setCell_same _ _ _ c2
        · exact (World.cell?_setCell_other _ _ _ _ (by simp)).trans c3
        · exact (wrap_range _).1
        · exact (wrap_range _).2
        · intro o
          exact (World.frozen?_setCell _ _ _ _).trans (hf o)
        · exact (HB.out.setCell (Nat.le_refl _) _).drew
      case measure => simp [intOf]; omega
    · have hq : (¬ k < len ∧ decide (k < len) = false) ∨ (k < len ∧ ¬ k < 64 ∧ decide (k < 64) = false ∧ decide ((k : Int) < 64) = false) := by
        by_cases h : k < len
        · exact .inr ⟨h, by omega, by rw [decide_eq_false_iff_not]; omega, by rw [decide_eq_false_iff_not]; omega⟩
        · exact .inl ⟨h, by rw [decide_eq_false_iff_not]; omega⟩
      have hd0 : (0 : Int) ≤ (len : Int) / 20 := by omega
      by_cases h12 : (12 : Int) < (len : Int) / 20
      · rcases hq with ⟨q1, q1'⟩ | ⟨q1, q2, q2', q2''⟩
        all_goals
          go_wp2
          go_ret
          exact ⟨rfl, src_size hz c0 c1 c2 c3 m0 m1 (by decide) (by decide) hl hf HBy.out, HB.out.setCell (Nat.le_refl _) _⟩
      · have q3 : decide ((12 : Int) < (len : Int) / 20) = false := by rw [decide_eq_false_iff_not]; exact h12
        rcases hq with ⟨q1, q1'⟩ | ⟨q1, q2, q2', q2''⟩
        all_goals
          go_wp2
          go_ret
          exact ⟨rfl, src_size hz c0 c1 c2 c3 m0 m1 hd0 (by omega) hl hf HBy.out, HB.out.setCell (Nat.le_refl _) _⟩
end Go.Proofs.Ytecaeolgheefmaa

/- What a label and a path of a url are, as plain functions, with the facts that walks close with. -/
namespace Go.Proofs.Ytecaeolgheefmaa
/-- may the byte stand in a label? -/
def labC (c : Nat) : Bool := decide ((97 ≤ c ∧ c ≤ 122) ∨ (48 ≤ c ∧ c ≤ 57) ∨ c = 45)
def labelB (t : ByteArray) : Bool := decide (1 ≤ t.size ∧ t.size ≤ 12 ∧ (∀ h : 0 < t.size, ¬ t[0].toNat = 45) ∧ (∀ h : t.size - 1 < t.size, ¬ t[t.size - 1].toNat = 45) ∧ ∀ i (h : i < t.size), labC t[i].toNat = true)
theorem labelB_size {t : ByteArray} (h : t.size < 1 ∨ 12 < t.size) : labelB t = false := by
  unfold labelB; rw [decide_eq_false_iff_not]; rintro ⟨a, b, _⟩; omega
theorem labelB_first {t : ByteArray} (h : 0 < t.size) (hc : t[0].toNat = 45) : labelB t = false := by
  unfold labelB; rw [decide_eq_false_iff_not]; rintro ⟨_, _, a, _⟩; exact a h hc
theorem labelB_last {t : ByteArray} (h : t.size - 1 < t.size) (hc : t[t.size - 1].toNat = 45) : labelB t = false := by
  unfold labelB; rw [decide_eq_false_iff_not]; rintro ⟨_, _, _, a, _⟩; exact a h hc
theorem labelB_at {t : ByteArray} (k : Nat) (h : k < t.size) (hk : labC t[k].toNat = false) : labelB t = false := by
  unfold labelB; rw [decide_eq_false_iff_not]; rintro ⟨_, _, _, _, c⟩; rw [c k h] at hk; cases hk
theorem labelB_true {t : ByteArray} (h1 : 1 ≤ t.size) (h2 : t.size ≤ 12) (h3 : ∀ h : 0 < t.size, ¬ t[0].toNat = 45) (h4 : ∀ h : t.size - 1 < t.size, ¬ t[t.size - 1].toNat = 45)
    (h : ∀ i (h : i < t.size), labC t[i].toNat = true) : labelB t = true := by
  unfold labelB; rw [decide_eq_true_iff]; exact ⟨h1, h2, h3, h4, h⟩
theorem labC_yes {c : Nat} (h : (97 ≤ c ∧ c ≤ 122) ∨ (48 ≤ c ∧ c ≤ 57) ∨ c = 45) : labC c = true := by unfold labC; rw [decide_eq_true_iff]; exact h
theorem labC_no {c : Nat} (h : ¬ ((97 ≤ c ∧ c ≤ 122) ∨ (48 ≤ c ∧ c ≤ 57) ∨ c = 45)) : labC c = false := by unfold labC; rw [decide_eq_false_iff_not]; exact h
theorem all_succ {t : ByteArray} {P : Nat → Bool} {k : Nat} (hr : ∀ i (h : i < t.size), i < k → P t[i].toNat = true) (hk : k < t.size) (ho : P t[k].toNat = true) :
    ∀ i (h : i < t.size), i < k + 1 → P t[i].toNat = true := by
  intro i h hi
  by_cases e : i = k
  · subst e; exact ho
  · exact hr i h (by omega)
/-- may the byte stand in a path? -/
def pathC (c : Nat) : Bool := decide (33 ≤ c ∧ c ≤ 126 ∧ ¬ c = 63 ∧ ¬ c = 35 ∧ ¬ c = 59)
def pathB (t : ByteArray) : Bool := decide (1 ≤ t.size ∧ t.size ≤ 40 ∧ (∀ h : 0 < t.size, t[0].toNat = 47) ∧ ∀ i (h : i < t.size), pathC t[i].toNat = true)
theorem pathB_size {t : ByteArray} (h : t.size < 1 ∨ 40 < t.size) : pathB t = false := by
  unfold pathB; rw [decide_eq_false_iff_not]; rintro ⟨a, b, _⟩; omega
theorem pathB_first {t : ByteArray} (h : 0 < t.size) (hc : ¬ t[0].toNat = 47) : pathB t = false := by
  unfold pathB; rw [decide_eq_false_iff_not]; rintro ⟨_, _, a, _⟩; exact hc (a h)
theorem pathB_at {t : ByteArray} (k : Nat) (h : k < t.size) (hk : pathC t[k].toNat = false) : pathB t = false := by
  unfold pathB; rw [decide_eq_false_iff_not]; rintro ⟨_, _, _, c⟩; rw [c k h] at hk; cases hk
theorem pathB_true {t : ByteArray} (h1 : 1 ≤ t.size) (h2 : t.size ≤ 40) (h3 : ∀ h : 0 < t.size, t[0].toNat = 47) (h : ∀ i (h : i < t.size), pathC t[i].toNat = true) : pathB t = true := by
  unfold pathB; rw [decide_eq_true_iff]; exact ⟨h1, h2, h3, h⟩
theorem pathC_yes {c : Nat} (h : 33 ≤ c ∧ c ≤ 126 ∧ ¬ c = 63 ∧ ¬ c = 35 ∧ ¬ c = 59) : pathC c = true := by unfold pathC; rw [decide_eq_true_iff]; exact h
theorem pathC_no {c : Nat} (h : ¬ (33 ≤ c ∧ c ≤ 126 ∧ ¬ c = 63 ∧ ¬ c = 35 ∧ ¬ c = 59)) : pathC c = false := by unfold pathC; rw [decide_eq_false_iff_not]; exact h
end Go.Proofs.Ytecaeolgheefmaa

/- A text cut at a byte, as a plain function that goes byte by byte; what a host's labels are. -/
namespace Go.Proofs.Ytecaeolgheefmaa
/-- the cuts among the first i bytes, and where the last one ends -/
def splitTo (s : ByteArray) (c : Nat) : Nat → List ByteArray × Nat
  | 0 => ([], 0)
  | i + 1 => if h : i < s.size then (if s[i].toNat = c then ((splitTo s c i).1 ++ [s.extract (splitTo s c i).2 i], i + 1) else splitTo s c i) else splitTo s c i
def splitB (s : ByteArray) (c : Nat) : List ByteArray := (splitTo s c s.size).1 ++ [s.extract (splitTo s c s.size).2 s.size]
theorem splitTo_hit {s : ByteArray} {c i : Nat} (h : i < s.size) (hc : s[i].toNat = c) : splitTo s c (i + 1) = ((splitTo s c i).1 ++ [s.extract (splitTo s c i).2 i], i + 1) := by
  rw [splitTo, dif_pos h, if_pos hc]
theorem splitTo_miss {s : ByteArray} {c i : Nat} (h : i < s.size) (hc : ¬ s[i].toNat = c) : splitTo s c (i + 1) = splitTo s c i := by
  rw [splitTo, dif_pos h, if_neg hc]
theorem splitTo_le (s : ByteArray) (c i : Nat) : (splitTo s c i).2 ≤ i ∧ (splitTo s c i).1.length ≤ i := by
  induction i with
  | zero => exact ⟨Nat.le_refl _, Nat.le_refl _⟩
  | succ i ih =>
    rw [splitTo]
    split
    · split
      · exact ⟨Nat.le_refl _, by simp; omega⟩
      · exact ⟨by omega, by omega⟩
    · exact ⟨by omega, by omega⟩
theorem splitB_len (s : ByteArray) (c : Nat) : (splitB s c).length ≤ s.size + 1 := by
  have := (splitTo_le s c s.size).2
  unfold splitB; simp; omega
/-- a right host -/
def hostB (s : ByteArray) : Bool := decide (s.size ≤ 100) && (splitB s 46).all labelB && decide ((splitB s 46).length ≤ 6)
theorem hostB_size {s : ByteArray} (h : 100 < s.size) : hostB s = false := by
  unfold hostB; rw [decide_eq_false (by omega)]; rfl
theorem hostB_at {s : ByteArray} (k : Nat) (h : k < (splitB s 46).length) (hl : labelB ((splitB s 46)[k]) = false) : hostB s = false := by
  have : (splitB s 46).all labelB = false := by
    rw [List.all_eq_false]
    exact ⟨_, List.getElem_mem h, by simp [hl]⟩
  unfold hostB; rw [this]; simp
theorem hostB_all {s : ByteArray} (hs : s.size ≤ 100) (h : ∀ k (h : k < (splitB s 46).length), labelB ((splitB s 46)[k]) = true) : hostB s = decide ((splitB s 46).length ≤ 6) := by
  have : (splitB s 46).all labelB = true := by
    rw [List.all_eq_true]
    intro x hx
    obtain ⟨k, hk, rfl⟩ := List.getElem_of_mem hx
    exact h k hk
  unfold hostB; rw [this, decide_eq_true hs]; rfl
theorem splitTo_little (s : ByteArray) (c : Nat) : ∀ i, ∀ x ∈ (splitTo s c i).1, x.size ≤ s.size
  | 0, x, h => by cases h
  | i + 1, x, h => by
    rw [splitTo] at h
    split at h
    · split at h
      · rw [List.mem_append] at h
        rcases h with h | h
        · exact splitTo_little s c i x h
        · rw [List.mem_singleton] at h
          rw [h, ByteArray.size_extract]; omega
      · exact splitTo_little s c i x h
    · exact splitTo_little s c i x h
theorem splitB_small (s : ByteArray) (c : Nat) : ∀ x ∈ splitB s c, x.size ≤ s.size := by
  intro x h
  unfold splitB at h
  rw [List.mem_append, List.mem_singleton] at h
  rcases h with h | h
  · exact splitTo_little s c _ x h
  · rw [h, ByteArray.size_extract]; omega
end Go.Proofs.Ytecaeolgheefmaa

/- The walks of the specification's l02Label and l02Path. -/
namespace Go.Proofs.Ytecaeolgheefmaa
open Go.RowKit

end Go.Proofs.Ytecaeolgheefmaa

/- The walks of the specification's l01Split and HostRight. -/
namespace Go.Proofs.Ytecaeolgheefmaa
open Go.RowKit

theorem infoStr : (Try.prog.info? 9).map (fun i => (i.zero, i.size, i.bytes)) = some (some (.string ⟨#[]⟩), 1, 16) := by kernel_rfl
/-- the cells of texts -/
def strCells (L : List ByteArray) : List Value := L.map Value.string
theorem strCells_snoc (L : List ByteArray) (x : ByteArray) : strCells L ++ [.string x] = strCells (L ++ [x]) := by simp [strCells]

theorem splitB_ne (s : ByteArray) (c : Nat) : ∃ n, (splitB s c).length = n + 1 := ⟨(splitTo s c s.size).1.length, by simp [splitB]⟩

end Go.Proofs.Ytecaeolgheefmaa

/- The walks of the specification's l02Place, UrlRight, l02Text and UrlText. -/
namespace Go.Proofs.Ytecaeolgheefmaa
open Go.RowKit

def schemeB (t : ByteArray) : Bool := (t.toList == [104, 116, 116, 112]) || (t.toList == [104, 116, 116, 112, 115])
def placeB (sc ho : ByteArray) (po : Int) : Bool := schemeB sc && hostB ho && (decide (1 ≤ po) && decide (po ≤ 65535))
def urlB (sc ho pa : ByteArray) (po : Int) : Bool := placeB sc ho po && pathB pa


set_option maxRecDepth 10000 in
set_option maxHeartbeats 400000 in
theorem specIs_any (n lo hi : Int) (w : World) :
    Calls Try.prog 85 #[.int .i64 n, .int .i64 lo, .int .i64 hi] w fun e w' => e = .returned (.bool (decide (lo ≤ n) && decide (n ≤ hi))) ∧ w' = w := by
  by_cases h : lo ≤ n
  · go_enter Try.func85, Try.ntmps85
    go_wp2
    go_ret
    exact ⟨ret_bool (by simp [h]), rfl⟩
  · have q : decide (lo ≤ n) = false := by rw [decide_eq_false_iff_not]; exact h
    go_enter Try.func85, Try.ntmps85
    go_wp2
    go_ret
    exact ⟨ret_bool (by simp), rfl⟩


/-- a Url, as a value -/
def urlV (sc ho pa : ByteArray) (po : Int) : Value := .agg #[.string sc, .string ho, .int .i64 po, .string pa]


def usualP (sc : ByteArray) : Int := if (sc.toList == [104, 116, 116, 112, 115]) = true then 443 else 80
/-- the text of a place -/
def placeT (sc ho : ByteArray) (po : Int) : ByteArray := if po = usualP sc then sc ++ ⟨#[58, 47, 47]⟩ ++ ho else sc ++ ⟨#[58, 47, 47]⟩ ++ ho ++ ⟨#[58]⟩ ++ decB po


theorem decB_size {n : Int} (h1 : -9223372036854775808 ≤ n) (h2 : n ≤ 9223372036854775807) : (decB n).size ≤ 21 := by
  unfold decB
  split
  · exact (by decide : 1 ≤ 21)
  · split
    · have := decA_twenty (m := n.natAbs) (by omega)
      rw [ByteArray.size_append]
      show 1 + (decA n.natAbs).length ≤ 21
      omega
    · have := decA_twenty (m := n.natAbs) (by omega)
      show (decA n.natAbs).length ≤ 21
      omega
theorem specDec_any (n : Int) (w : World) (h1 : -9223372036854775808 ≤ n) (h2 : n ≤ 9223372036854775807) :
    Calls Try.prog 81 #[.int .i64 n] w fun e w' => e = .returned (.string (decB n)) ∧ Below w.heap.size w w' := by
  by_cases h0 : n = 0
  · subst h0; exact specDec_zero w
  by_cases hn : n < 0
  · obtain ⟨m, hm⟩ : ∃ m : Nat, n = -(m : Int) := ⟨n.natAbs, by omega⟩
    subst hm
    exact specDec_neg m w (by omega) (by omega)
  · obtain ⟨m, rfl⟩ := Int.eq_ofNat_of_zero_le (show 0 ≤ n by omega)
    exact specDec_pos m w (by omega) (by omega)

end Go.Proofs.Ytecaeolgheefmaa

/- The walk of the specification's UrlText. -/
namespace Go.Proofs.Ytecaeolgheefmaa
open Go.RowKit

/-- the text of a right url, else the empty one -/
def urlT (sc ho pa : ByteArray) (po : Int) : ByteArray := if urlB sc ho pa po = true then placeT sc ho po ++ pa else ⟨#[]⟩
theorem schemeB_size {t : ByteArray} (h : schemeB t = true) : t.size ≤ 5 := by
  have hl : t.size = t.toList.length := by rw [ByteArray.toList_eq]; rfl
  unfold schemeB at h
  rw [Bool.or_eq_true, beq_iff_eq, beq_iff_eq] at h
  rcases h with h | h <;> rw [hl, h] <;> decide
theorem urlB_parts {sc ho pa : ByteArray} {po : Int} (h : urlB sc ho pa po = true) : sc.size ≤ 5 ∧ ho.size ≤ 100 ∧ 1 ≤ po ∧ po ≤ 65535 ∧ pa.size ≤ 40 := by
  unfold urlB placeB at h
  simp only [Bool.and_eq_true, decide_eq_true_eq] at h
  obtain ⟨⟨⟨h1, h2⟩, h3, h4⟩, h5⟩ := h
  refine ⟨schemeB_size h1, ?_, h3, h4, ?_⟩
  · by_cases hz : 100 < ho.size
    · rw [hostB_size hz] at h2; cases h2
    · omega
  · by_cases hz : 40 < pa.size
    · rw [pathB_size (.inr hz)] at h5; cases h5
    · omega
theorem placeT_size {sc ho : ByteArray} {po : Int} (h1 : sc.size ≤ 5) (h2 : ho.size ≤ 100) (h3 : 1 ≤ po) (h4 : po ≤ 65535) : (placeT sc ho po).size ≤ 200 := by
  have hd := decB_size (n := po) (by omega) (by omega)
  have e1 : (⟨#[58, 47, 47]⟩ : ByteArray).size = 3 := rfl
  have e2 : (⟨#[58]⟩ : ByteArray).size = 1 := rfl
  unfold placeT
  split
  · rw [ByteArray.size_append, ByteArray.size_append]; omega
  · rw [ByteArray.size_append, ByteArray.size_append, ByteArray.size_append, ByteArray.size_append]; omega

end Go.Proofs.Ytecaeolgheefmaa

/- The specification's drawn hosts and urls: what they tell is short. -/
namespace Go.Proofs.Ytecaeolgheefmaa
open Go.RowKit

/-- n texts of at most N bytes in block h -/
def ShortRow (w : World) (h n N : Nat) : Prop := ∀ j, j < n → ∃ x : ByteArray, w.cell? ⟨h, j, none⟩ = some (.string x) ∧ x.size ≤ N
def shortB (cs : Array Value) (n N : Nat) : Bool := (List.range n).all fun j => match cs[j]? with | some (.string x) => decide (x.size ≤ N) | _ => false
theorem short_made (w : World) (cs : Array Value) (t : TypeId) (n N : Nat) (h : shortB cs n N = true) : ShortRow (w.alloc (.cells cs t)) w.heap.size n N := by
  intro j hj
  have := List.all_eq_true.mp h j (List.mem_range.mpr hj)
  rw [World.cell?_alloc_new]
  revert this
  cases cs[j]? with
  | none => intro h; cases h
  | some v =>
    cases v with
    | string x => intro h; exact ⟨x, rfl, by simpa using h⟩
    | _ => intro h; cases h
theorem short_made_at (w : World) (b : Nat) (hb : b = w.heap.size) (cs : Array Value) (t : TypeId) (n N : Nat) (h : shortB cs n N = true) : ShortRow (w.alloc (.cells cs t)) b n N := by
  subst hb; exact short_made w cs t n N h

set_option maxRecDepth 10000 in
set_option maxHeartbeats 400000 in
theorem srcPick_short (g h n cap N : Nat) (w : World) (hs : SrcAt w g) (ht : ShortRow w h (n + 2) N) (hne : h ≠ g) (hn : n ≤ 1048576) :
    Calls Try.prog 79 #[.pointer (some ⟨g, 0, none⟩), .slice (some ⟨h, 0, none⟩) (n + 2) cap] w fun e w' => (∃ t : ByteArray, e = .returned (.string t) ∧ t.size ≤ N) ∧ SrcAt w' g ∧ w.grownBy w' (some g) := by
  classical
  let f : Nat → ByteArray := fun j => if hj : j < n + 2 then (ht j hj).choose else ⟨#[]⟩
  refine (srcPick_any g h n cap f w hs ?_ hne hn).mono ?_
  · intro j hj
    simp only [f, dif_pos hj]
    exact (ht j hj).choose_spec.1
  · rintro e w' ⟨⟨j, hj, rfl⟩, h1, h2⟩
    refine ⟨⟨_, rfl, ?_⟩, h1, h2⟩
    simp only [f, dif_pos hj]
    exact (ht j hj).choose_spec.2

theorem cell_lt {w : World} {a : Addr} {v : Value} (h : w.cell? a = some v) : a.block < w.heap.size := by
  unfold World.cell? at h
  split at h
  · rename_i hb
    exact (Array.getElem?_eq_some_iff.mp hb).1
  · cases h
theorem SrcAt.alloc {w : World} {g : Nat} (h : SrcAt w g) (o : Obj) : SrcAt (w.alloc o) g := by
  obtain ⟨hg, a, len, cap, k, mix, size, ⟨c0, c1, c2, c3⟩, hm, hf, hb⟩ := h
  refine ⟨by simp; omega, a, len, cap, k, mix, size, ⟨?_, ?_, ?_, ?_⟩, hm, ?_, ?_⟩
  · rw [World.cell?_alloc_lt _ _ _ hg]; exact c0
  · rw [World.cell?_alloc_lt _ _ _ hg]; exact c1
  · rw [World.cell?_alloc_lt _ _ _ hg]; exact c2
  · rw [World.cell?_alloc_lt _ _ _ hg]; exact c3
  · intro o'
    rw [World.frozen?_of_block (w := w) (Below.heap_alloc _ _ _ hg)]; exact hf o'
  · intro i hi
    obtain ⟨x, z, e, hx, hc, hz⟩ := hb i hi
    exact ⟨x, z, e, hx, (World.cell?_of_block (w := w) (Below.heap_alloc _ _ _ (cell_lt hc))).trans hc, hz⟩

end Go.Proofs.Ytecaeolgheefmaa

/- The specification's drawn urls: their texts are short. -/
namespace Go.Proofs.Ytecaeolgheefmaa
open Go.RowKit

/-- four cells in block b, none of them frozen -/
def U4 (w : World) (b : Nat) (v0 v1 v2 v3 : Value) : Prop := b < w.heap.size ∧ (w.cell? ⟨b, 0, none⟩ = some v0 ∧ w.cell? ⟨b, 1, none⟩ = some v1 ∧ w.cell? ⟨b, 2, none⟩ = some v2 ∧ w.cell? ⟨b, 3, none⟩ = some v3) ∧ ∀ o, w.frozen? ⟨b, o, none⟩ = false
theorem U4.kept {w w' : World} {b : Nat} {v0 v1 v2 v3 : Value} {r : Option Nat} (h : U4 w b v0 v1 v2 v3) (hg : w.grownBy w' r) (hne : some b ≠ r) : U4 w' b v0 v1 v2 v3 := by
  obtain ⟨hb, ⟨c0, c1, c2, c3⟩, hf⟩ := h
  have hs := hg.size
  refine ⟨by omega, ⟨hg.cell (a := ⟨b, 0, none⟩) c0 hne, hg.cell (a := ⟨b, 1, none⟩) c1 hne, hg.cell (a := ⟨b, 2, none⟩) c2 hne, hg.cell (a := ⟨b, 3, none⟩) c3 hne⟩, ?_⟩
  intro o
  rw [World.frozen?_of_block (w := w) (a := ⟨b, o, none⟩) (hg.block b hb hne)]
  exact hf o
theorem U4.made (w : World) (v0 v1 v2 v3 : Value) (t : TypeId) : U4 (w.alloc (.cells #[v0, v1, v2, v3] t)) w.heap.size v0 v1 v2 v3 := by
  refine ⟨by simp, ⟨by simp, by simp, by simp, by simp⟩, by simp⟩
theorem U4.alloc {w : World} {b : Nat} {v0 v1 v2 v3 : Value} (h : U4 w b v0 v1 v2 v3) (o : Obj) : U4 (w.alloc o) b v0 v1 v2 v3 := h.kept (World.grownBy_alloc w o none) (by simp)
/-- a cell of a block that the call has made is written -/
theorem grown_new {w w' : World} {r : Option Nat} {p : Addr} (h : w.grownBy w' r) (hp : w.heap.size ≤ p.block) (v : Value) : w.grownBy (w'.setCell p v) r :=
  ⟨h.os, h.tape, h.output, by have := h.size; simp [World.setCell]; omega, fun j hj hne => by
    rw [Below.heap_setCell _ _ _ _ (by omega)]; exact h.block j hj hne⟩
theorem SrcAt.setCell {w : World} {g : Nat} {p : Addr} (h : SrcAt w g) (hp : g < p.block) (v : Value) : SrcAt (w.setCell p v) g := by
  obtain ⟨hg, a, len, cap, k, mix, size, ⟨c0, c1, c2, c3⟩, hm, hf, hby⟩ := h
  have hne : p.block ≠ g := by omega
  refine ⟨by simpa [World.setCell] using hg, a, len, cap, k, mix, size, ⟨?_, ?_, ?_, ?_⟩, hm, ?_, ?_⟩
  · rw [World.cell?_setCell_far _ _ _ _ hne]; exact c0
  · rw [World.cell?_setCell_far _ _ _ _ hne]; exact c1
  · rw [World.cell?_setCell_far _ _ _ _ hne]; exact c2
  · rw [World.cell?_setCell_far _ _ _ _ hne]; exact c3
  · intro o; rw [World.frozen?_setCell]; exact hf o
  · intro i hi
    obtain ⟨x, z, e, hx, hc, hz⟩ := hby i hi
    refine ⟨x, z, e, hx, ?_, hz⟩
    rw [World.cell?_setCell_far _ _ _ _ (by rw [add_block]; omega)]
    exact hc
theorem U4.far {w : World} {b : Nat} {v0 v1 v2 v3 : Value} {p : Addr} (h : U4 w b v0 v1 v2 v3) (hp : p.block ≠ b) (v : Value) : U4 (w.setCell p v) b v0 v1 v2 v3 := by
  obtain ⟨hb, ⟨c0, c1, c2, c3⟩, hf⟩ := h
  refine ⟨by simpa [World.setCell] using hb, ⟨?_, ?_, ?_, ?_⟩, ?_⟩
  · rw [World.cell?_setCell_far _ _ _ _ hp]; exact c0
  · rw [World.cell?_setCell_far _ _ _ _ hp]; exact c1
  · rw [World.cell?_setCell_far _ _ _ _ hp]; exact c2
  · rw [World.cell?_setCell_far _ _ _ _ hp]; exact c3
  · intro o; rw [World.frozen?_setCell]; exact hf o
theorem U4.set0 {w : World} {b : Nat} {v0 v1 v2 v3 : Value} (h : U4 w b v0 v1 v2 v3) (v : Value) : U4 (w.setCell ⟨b, 0, none⟩ v) b v v1 v2 v3 := by
  obtain ⟨hb, ⟨c0, c1, c2, c3⟩, hf⟩ := h
  refine ⟨by simpa [World.setCell] using hb, ⟨?_, ?_, ?_, ?_⟩, ?_⟩
  · exact World.cell?_setCell_same _ _ _ c0
  · rw [World.cell?_setCell_other _ _ _ _ (by simp)]; exact c1
  · rw [World.cell?_setCell_other _ _ _ _ (by simp)]; exact c2
  · rw [World.cell?_setCell_other _ _ _ _ (by simp)]; exact c3
  · intro o; rw [World.frozen?_setCell]; exact hf o
theorem U4.set1 {w : World} {b : Nat} {v0 v1 v2 v3 : Value} (h : U4 w b v0 v1 v2 v3) (v : Value) : U4 (w.setCell ⟨b, 1, none⟩ v) b v0 v v2 v3 := by
  obtain ⟨hb, ⟨c0, c1, c2, c3⟩, hf⟩ := h
  refine ⟨by simpa [World.setCell] using hb, ⟨?_, ?_, ?_, ?_⟩, ?_⟩
  · rw [World.cell?_setCell_other _ _ _ _ (by simp)]; exact c0
  · exact World.cell?_setCell_same _ _ _ c1
  · rw [World.cell?_setCell_other _ _ _ _ (by simp)]; exact c2
  · rw [World.cell?_setCell_other _ _ _ _ (by simp)]; exact c3
  · intro o; rw [World.frozen?_setCell]; exact hf o
theorem U4.set2 {w : World} {b : Nat} {v0 v1 v2 v3 : Value} (h : U4 w b v0 v1 v2 v3) (v : Value) : U4 (w.setCell ⟨b, 2, none⟩ v) b v0 v1 v v3 := by
  obtain ⟨hb, ⟨c0, c1, c2, c3⟩, hf⟩ := h
  refine ⟨by simpa [World.setCell] using hb, ⟨?_, ?_, ?_, ?_⟩, ?_⟩
  · rw [World.cell?_setCell_other _ _ _ _ (by simp)]; exact c0
  · rw [World.cell?_setCell_other _ _ _ _ (by simp)]; exact c1
  · exact World.cell?_setCell_same _ _ _ c2
  · rw [World.cell?_setCell_other _ _ _ _ (by simp)]; exact c3
  · intro o; rw [World.frozen?_setCell]; exact hf o
theorem U4.set3 {w : World} {b : Nat} {v0 v1 v2 v3 : Value} (h : U4 w b v0 v1 v2 v3) (v : Value) : U4 (w.setCell ⟨b, 3, none⟩ v) b v0 v1 v2 v := by
  obtain ⟨hb, ⟨c0, c1, c2, c3⟩, hf⟩ := h
  refine ⟨by simpa [World.setCell] using hb, ⟨?_, ?_, ?_, ?_⟩, ?_⟩
  · rw [World.cell?_setCell_other _ _ _ _ (by simp)]; exact c0
  · rw [World.cell?_setCell_other _ _ _ _ (by simp)]; exact c1
  · rw [World.cell?_setCell_other _ _ _ _ (by simp)]; exact c2
  · exact World.cell?_setCell_same _ _ _ c3
  · intro o; rw [World.frozen?_setCell]; exact hf o

end Go.Proofs.Ytecaeolgheefmaa

/- The specification's spoil: a text changed a little is at most one byte longer. -/
namespace Go.Proofs.Ytecaeolgheefmaa
open Go.RowKit

end Go.Proofs.Ytecaeolgheefmaa

/- The specification's draws over urls: a drawn url, a drawn text, a drawn host: all short. -/
namespace Go.Proofs.Ytecaeolgheefmaa
open Go.RowKit

theorem CodeRow.below {w w' : World} {a : Option Addr} {len : Nat} (h : CodeRow w a len) (hb : Below w.heap.size w w') : CodeRow w' a len := by
  intro i hi
  obtain ⟨x, z, e, hx, hc, hz⟩ := h i hi
  exact ⟨x, z, e, Nat.lt_of_lt_of_le hx hb.size, by rw [hb.cell (p := x.add i) (by rw [add_block]; exact hx)]; exact hc, hz⟩
/-- a draw's world: nothing that was there is turned -/
theorem below_grown {w w1 w2 : World} {B g : Nat} (h : Below B w w1) (hg : w1.grownBy w2 (some g)) (hB : B ≤ w1.heap.size) (hBg : B ≤ g) : Below B w w2 := h.grown hg hB (fun k e => by injection e with e; omega)

theorem SrcAt.below {w w' : World} {g : Nat} (h : SrcAt w g) (hb : Below w.heap.size w w') : SrcAt w' g := by
  obtain ⟨hg, a, len, cap, k, mix, size, ⟨c0, c1, c2, c3⟩, hm, hf, hby⟩ := h
  refine ⟨Nat.lt_of_lt_of_le hg hb.size, a, len, cap, k, mix, size, ⟨?_, ?_, ?_, ?_⟩, hm, ?_, ?_⟩
  · rw [(bcell hb).1 _ _ hg]; exact c0
  · rw [(bcell hb).1 _ _ hg]; exact c1
  · rw [(bcell hb).1 _ _ hg]; exact c2
  · rw [(bcell hb).1 _ _ hg]; exact c3
  · intro o; rw [(bcell hb).2 _ _ hg]; exact hf o
  · intro i hi
    obtain ⟨x, z, e, hx, hc, hz⟩ := hby i hi
    exact ⟨x, z, e, hx, by rw [hb.cell (p := x.add i) (by rw [add_block]; omega)]; exact hc, hz⟩




end Go.Proofs.Ytecaeolgheefmaa

/- The specification's drawn kinds and texts of kinds. -/
namespace Go.Proofs.Ytecaeolgheefmaa
open Go.RowKit

/-- n numbers in block h -/
def IntsRow (w : World) (h n : Nat) : Prop := ∀ j, j < n → ∃ x : Int, w.cell? ⟨h, j, none⟩ = some (.int .i64 x)
def intsB (cs : Array Value) (n : Nat) : Bool := (List.range n).all fun j => match cs[j]? with | some (.int .i64 _) => true | _ => false
theorem ints_made (w : World) (cs : Array Value) (t : TypeId) (n : Nat) (h : intsB cs n = true) : IntsRow (w.alloc (.cells cs t)) w.heap.size n := by
  intro j hj
  have := List.all_eq_true.mp h j (List.mem_range.mpr hj)
  rw [World.cell?_alloc_new]
  revert this
  cases cs[j]? with
  | none => intro h; cases h
  | some v =>
    cases v with
    | int k x => cases k with
      | i64 => intro _; exact ⟨x, rfl⟩
      | _ => intro h; cases h
    | _ => intro h; cases h
theorem IntsRow.kept {w w' : World} {h n : Nat} {r : Option Nat} (hi : IntsRow w h n) (hg : w.grownBy w' r) (hne : some h ≠ r) : IntsRow w' h n := fun j hj => by
  obtain ⟨x, hx⟩ := hi j hj
  exact ⟨x, hg.cell (a := ⟨h, j, none⟩) hx hne⟩
set_option maxRecDepth 10000 in
set_option maxHeartbeats 1000000 in
theorem srcEdge_any (g : Nat) (w : World) (hs : SrcAt w g) :
    Calls Try.prog 80 #[.pointer (some ⟨g, 0, none⟩)] w fun e w' => (∃ n : Int, e = .returned (.int .i64 n)) ∧ SrcAt w' g ∧ w.grownBy w' (some g) := by
  have hgw := hs.1
  have HN : Hid (∀ o, Calls Try.prog 78 #[.pointer (some ⟨g, 0, none⟩), .int .i64 14] (w.alloc o) fun e w' => ∃ r : Int, e = .returned (.int .i64 r) ∧ 0 ≤ r ∧ (1 < (14 : Int) → r < 14) ∧ ((14 : Int) ≤ 1 → r = 0) ∧ SrcAt w' g ∧ (w.alloc o).grownBy w' (some g)) := fun o => srcN_any g 14 _ (hs.alloc o) (by decide)
  have HI : Hid (∀ cs t, intsB cs 14 = true → IntsRow (w.alloc (.cells cs t)) w.heap.size 14) := fun cs t h => ints_made w cs t 14 h
  have HG : Hid (∀ o, w.grownBy (w.alloc o) (some g)) := fun o => World.grownBy_alloc _ _ _
  clear hs
  go_enter Try.func80, Try.ntmps80
  go_wp2_with fail
  refine (HN.out _).mono ?_
  rintro e w1 ⟨r, rfl, r0, r1, _, h1, h2⟩
  have r2 := r1 (by decide)
  obtain ⟨j, rfl⟩ : ∃ j : Nat, r = j := ⟨r.toNat, by omega⟩
  have hj : j < 14 := by omega
  obtain ⟨x, hx⟩ := (IntsRow.kept (HI.out _ _ (by rfl)) h2 (by intro e; injection e with e; omega)) j hj
  have G2 : Hid (w.grownBy w1 (some g)) := (HG.out _).trans h2
  have S2 : Hid (SrcAt w1 g) := h1
  clear h1 h2 r1 HI HN HG
  go_wp2
  go_ret
  exact ⟨⟨x, rfl⟩, S2.out, G2.out⟩
end Go.Proofs.Ytecaeolgheefmaa

/- The specification's draws of chapter 9: a site, a time. -/
namespace Go.Proofs.Ytecaeolgheefmaa
open Go.RowKit
set_option maxRecDepth 10000 in
set_option maxHeartbeats 1000000 in
theorem srcNow8_any (g : Nat) (w : World) (hs : SrcAt w g) :
    Calls Try.prog 53 #[.pointer (some ⟨g, 0, none⟩)] w fun e w' => (∃ n : Int, e = .returned (.int .i64 n)) ∧ SrcAt w' g ∧ w.grownBy w' (some g) := by
  have hgw := hs.1
  have HO : Hid (Calls Try.prog 52 #[.pointer (some ⟨g, 0, none⟩), .int .i64 12] w fun e w' => (∃ b : Bool, e = .returned (.bool b)) ∧ SrcAt w' g ∧ w.grownBy w' (some g)) := srcOne_any g 12 w hs (by decide)
  have HN : Hid (∀ W m, SrcAt W g → 0 ≤ m → m < 100 → Calls Try.prog 78 #[.pointer (some ⟨g, 0, none⟩), .int .i64 m] W fun e w' => ∃ r : Int, e = .returned (.int .i64 r) ∧ 0 ≤ r ∧ (1 < m → r < m) ∧ (m ≤ 1 → r = 0) ∧ SrcAt w' g ∧ W.grownBy w' (some g)) := fun W m h _ h2 => srcN_any g m W h (by omega)
  have HI : Hid (∀ (W : World) cs t, intsB cs 3 = true → IntsRow (W.alloc (.cells cs t)) W.heap.size 3) := fun W cs t h => ints_made W cs t 3 h
  clear hs
  go_enter Try.func53, Try.ntmps53
  go_wp2_with fail
  refine HO.out.mono ?_
  rintro e w1 ⟨⟨b, rfl⟩, h1, h2⟩
  have hgw1 := h1.1
  have S1 : Hid (SrcAt w1 g) := h1
  have G1 : Hid (w.grownBy w1 (some g)) := h2
  clear h1 h2
  cases b with
  | true =>
    go_wp2_with fail
    refine (HN.out _ 3 (S1.out.alloc _) (by decide) (by decide)).mono ?_
    rintro e w2 ⟨r, rfl, r0, r1, _, h3, h4⟩
    have r2 := r1 (by decide)
    obtain ⟨j, rfl⟩ : ∃ j : Nat, r = j := ⟨r.toNat, by omega⟩
    have hj : j < 3 := by omega
    obtain ⟨x, hx⟩ := (IntsRow.kept (HI.out _ _ _ (by rfl)) h4 (by intro e; injection e with e; omega)) j hj
    have G2 : Hid (w.grownBy w2 (some g)) := G1.out.trans ((World.grownBy_alloc _ _ _).trans h4)
    have S2 : Hid (SrcAt w2 g) := h3
    clear h3 h4 r1 HI HN HO S1 G1
    go_wp2
    go_ret
    exact ⟨⟨x, rfl⟩, S2.out, G2.out⟩
  | false =>
    go_wp2_with fail
    refine (HN.out _ 70 S1.out (by decide) (by decide)).mono ?_
    rintro e w2 ⟨r, rfl, r0, r1, _, h3, h4⟩
    have G2 : Hid (w.grownBy w2 (some g)) := G1.out.trans h4
    have S2 : Hid (SrcAt w2 g) := h3
    clear h3 h4 HI HN HO S1 G1
    go_wp2
    go_ret
    exact ⟨⟨r, rfl⟩, S2.out, G2.out⟩
theorem two_short {z : ByteArray} (hz : z.size ≤ 121) : shortB #[.string ⟨#[]⟩, .string z] 2 121 = true := by
  have e : shortB #[.string ⟨#[]⟩, .string z] 2 121 = (decide ((⟨#[]⟩ : ByteArray).size ≤ 121) && (decide (z.size ≤ 121) && true)) := rfl
  rw [e, decide_eq_true hz]; rfl
theorem zeros_made (w : World) : ∃ (w' : World) (z : ByteArray) (o : Obj), Sem.run Try.prog (Instr.makeSlice 22 (.int .i64 121) (.int .i64 121)) w = .ok (.slice (some ⟨w.heap.size, 0, none⟩) 121 121) w' ∧ Sem.run Try.prog (convert 22 9 (.slice (some ⟨w.heap.size, 0, none⟩) 121 121)) w' = .ok (.string z) w' ∧ z.size ≤ 121 ∧ w' = w.alloc o := by
  obtain ⟨i, h2, h3, h4, h5⟩ := info_parts infoU8
  have hrun := run_make (P := Try.prog) w 22 5 i (.int .u8 0) Try.underlying22 h2 h3 .i64 .i64 121 121 (by omega) (Int.le_refl _) (by rw [h5]; omega) (by omega)
  have h121 : (121 : Int).toNat = 121 := rfl
  simp only [h121, h4, Nat.mul_one] at hrun
  have hc : ∀ (W : World), W = w.alloc (.cells (madeCells (Value.int .u8 0).cells 121) 5) → RowAt W w.heap.size 5 (Lib.byteCells (List.replicate 121 0) ++ []) := by
    rintro W rfl
    unfold RowAt
    rw [heap_alloc_new]
    have e : (madeCells (Value.int .u8 0).cells 121) = (Lib.byteCells (List.replicate 121 0) ++ []).toArray := by
      apply Array.ext'
      show (madeCells #[Value.int .u8 0] 121).toList = _
      rw [toList_madeCells_one]
      simp [Lib.byteCells]
    rw [e]
  obtain ⟨W, hW⟩ : ∃ W, W = w.alloc (.cells (madeCells (Value.int .u8 0).cells 121) 5) := ⟨_, rfl⟩
  exact ⟨W, ⟨(List.replicate 121 0).toArray⟩, .cells (madeCells (Value.int .u8 0).cells 121) 5, hrun.trans (by rw [hW]), text_of_row (P := Try.prog) W 22 9 5 Try.underlying22 Try.underlying5 Try.underlying9 w.heap.size 121 121 _ (List.replicate 121 0) [] (hc W hW) (by simp), by show (List.replicate 121 (0 : UInt8)).toArray.size ≤ 121; simp, hW⟩
set_option maxRecDepth 10000 in
set_option maxHeartbeats 1000000 in
theorem srcSite8_any (g : Nat) (w : World) (hs : SrcAt w g) :
    Calls Try.prog 51 #[.pointer (some ⟨g, 0, none⟩)] w fun e w' => (∃ t : ByteArray, e = .returned (.string t) ∧ t.size ≤ 121) ∧ SrcAt w' g ∧ w.grownBy w' (some g) := by
  have HO : Hid (Calls Try.prog 52 #[.pointer (some ⟨g, 0, none⟩), .int .i64 25] w fun e w' => (∃ b : Bool, e = .returned (.bool b)) ∧ SrcAt w' g ∧ w.grownBy w' (some g)) := srcOne_any g 25 w hs (by decide)
  clear hs
  go_enter Try.func51, Try.ntmps51
  go_wp2_with fail
  refine HO.out.mono ?_
  rintro e w1 ⟨⟨b, rfl⟩, h1, h2⟩
  cases b with
  | true =>
    go_wp2_with fail
    obtain ⟨w2, z, o, e1, e2, hz, rfl⟩ := zeros_made w1
    rw [e1]
    go_wp2_with fail
    refine (srcPick_short g (w1.heap.size + 1) 0 2 121 _ ((h1.alloc _).alloc _) (short_made_at _ _ (by simp) _ _ _ _ (two_short hz)) (by have := h1.1; omega) (by decide)).mono ?_
    rintro e w2 ⟨⟨t, rfl, ht⟩, h3, h4⟩
    go_wp2
    go_ret
    exact ⟨⟨t, rfl, ht⟩, h3, h2.trans ((World.grownBy_alloc _ _ _).trans ((World.grownBy_alloc _ _ _).trans h4))⟩
  | false =>
    go_wp2_with fail
    refine (srcPick_short g w1.heap.size 2 4 121 _ (h1.alloc _) (short_made w1 _ _ _ _ (by rfl)) (by have := h1.1; omega) (by decide)).mono ?_
    rintro e w2 ⟨⟨t, rfl, ht⟩, h3, h4⟩
    go_wp2
    go_ret
    exact ⟨⟨t, rfl, ht⟩, h3, h2.trans ((World.grownBy_alloc _ _ _).trans h4)⟩
end Go.Proofs.Ytecaeolgheefmaa

/- Rows that a call owns, beside a source that it draws from. -/
namespace Go.Proofs.Ytecaeolgheefmaa
open Go.RowKit

theorem row_kept {w w' : World} {base n size : Nat} {e : TypeId} {v : Value} {xs : List Value} {row : Option Nat} (h : w.ownsRow base e size v n xs) (hg : w.grownBy w' row) (hne : ∀ b, row = some b → b < base) : w'.ownsRow base e size v n xs := by
  obtain ⟨hl, ⟨rfl, h0⟩ | ⟨g, cap, cur, rfl, hb, hh, r⟩⟩ := h
  · exact ⟨hl, .inl ⟨rfl, h0⟩⟩
  · refine ⟨hl, .inr ⟨g, cap, cur, rfl, hb, ?_, r⟩⟩
    rw [hg.block g (Array.getElem?_eq_some_iff.mp hh).1 (fun e => by have := hne g e.symm; omega)]
    exact hh
theorem row_below {w w' : World} {B n : Nat} {e : TypeId} {v : Value} {xs : List Value} (h : w.ownsRow B e 1 v n xs) (hb : Below w.heap.size w w') : w'.ownsRow B e 1 v n xs := by
  obtain ⟨hl, h0 | ⟨g, cap, cur, rfl, hbg, hh, r⟩⟩ := h
  · exact ⟨hl, .inl h0⟩
  · have hg : g < w.heap.size := (Array.getElem?_eq_some_iff.mp hh).1
    exact ⟨hl, .inr ⟨g, cap, cur, rfl, hbg, by rw [hb.block g hg]; exact hh, r⟩⟩
theorem grown_of_below {w w1 w2 : World} {r : Option Nat} (h : w.grownBy w1 r) (hb : Below w1.heap.size w1 w2) : w.grownBy w2 r :=
  ⟨hb.os.trans h.os, hb.tape.trans h.tape, hb.output.trans h.output, Nat.le_trans h.size hb.size, fun k hk hne => (hb.block k (Nat.lt_of_lt_of_le hk h.size)).trans (h.block k hk hne)⟩
/-- a row that the call owns grows: what was there is as it was -/
theorem rows_grown {w w1 w2 w3 : World} {r r2 : Option Nat} (h : w.grownBy w1 r) (h2 : w1.grownBy w2 r2) (h3 : w2.grownBy w3 r2) (hr : ∀ b, r2 = some b → w.heap.size ≤ b) : w.grownBy w3 r :=
  ⟨h3.os.trans (h2.os.trans h.os), h3.tape.trans (h2.tape.trans h.tape), h3.output.trans (h2.output.trans h.output), Nat.le_trans h.size (Nat.le_trans h2.size h3.size), fun k hk hne => by
    have e1 := h.block k hk hne
    have hn : ¬ some k = r2 := fun e => by have := hr k e.symm; omega
    exact (h3.block k (Nat.lt_of_lt_of_le hk (Nat.le_trans h.size h2.size)) hn).trans ((h2.block k (Nat.lt_of_lt_of_le hk h.size) hn).trans e1)⟩
theorem SrcAt.grown {w w' : World} {g : Nat} {r : Option Nat} (h : SrcAt w g) (hg : w.grownBy w' r) (hr : ∀ b, r = some b → g < b) : SrcAt w' g := by
  obtain ⟨hgw, a, len, cap, k, mix, size, ⟨c0, c1, c2, c3⟩, hm, hf, hby⟩ := h
  have hne : ∀ b, b ≤ g → ¬ some b = r := fun b hb e => by have := hr b e.symm; omega
  have hblk : ∀ b, b ≤ g → w'.heap[b]? = w.heap[b]? := fun b hb => hg.block b (by omega) (hne b hb)
  refine ⟨Nat.lt_of_lt_of_le hgw hg.size, a, len, cap, k, mix, size, ⟨?_, ?_, ?_, ?_⟩, hm, ?_, ?_⟩
  · rw [← c0]; simp only [World.cell?, hblk g (Nat.le_refl _)]
  · rw [← c1]; simp only [World.cell?, hblk g (Nat.le_refl _)]
  · rw [← c2]; simp only [World.cell?, hblk g (Nat.le_refl _)]
  · rw [← c3]; simp only [World.cell?, hblk g (Nat.le_refl _)]
  · intro o; rw [← hf o]; simp only [World.frozen?, hblk g (Nat.le_refl _)]
  · intro i hi
    obtain ⟨x, z, e, hx, hc, hz⟩ := hby i hi
    refine ⟨x, z, e, hx, ?_, hz⟩
    exact hg.cell (a := x.add i) hc (hne _ (by rw [add_block]; omega))
end Go.Proofs.Ytecaeolgheefmaa

/- Grant: the structure. Written by rowsin.py. -/
namespace Go.Proofs.Ytecaeolgheefmaa
open Go.RowKit

structure Gr where
  tp : ByteArray
  si : ByteArray
  un : Int
/-- the value of a field, by its place -/
def grC (c : Gr) (o : Nat) : Value := if o = 0 then .string c.tp else if o = 1 then .string c.si else .int .i64 c.un
/-- as a value -/
def grV (c : Gr) : Value := .agg #[.string c.tp, .string c.si, .int .i64 c.un]
def grNone : Gr := ⟨⟨#[]⟩, ⟨#[]⟩, 0⟩
end Go.Proofs.Ytecaeolgheefmaa

/- What the laws do with a Grant besides their calls: its size is looked at, it is handed on field by field, two are held against each other. -/
namespace Go.Proofs.Ytecaeolgheefmaa
open Go.RowKit

set_option maxRecDepth 10000 in
set_option maxHeartbeats 1000000 in
theorem szGrant_at (x0 : ByteArray) (x1 : ByteArray) (x2 : Int) (l : Int) (w : World) (h0 : x0.size ≤ maxLen) (h1 : x1.size ≤ maxLen) (l0 : 0 ≤ l) (l1 : l ≤ 1048576) :
    Calls Try.prog 69 #[.agg #[.string x0, .string x1, .int .i64 x2], .int .i64 l] w fun e w' => (∃ r : Int, e = .returned (.int .i64 r) ∧ (r < 0 ∨ (0 ≤ r ∧ r ≤ 1048576 ∧ x0.size + x1.size ≤ 1048576))) ∧ Below w.heap.size w w' := by
  unfold maxLen at h0 h1
  by_cases c0 : l < x0.size
  · have q0 : l - (x0.size : Int) < 0 := by omega
    go_enter Try.func69, Try.ntmps69
    go_wp2
    go_ret
    exact ⟨⟨-1, rfl, .inl (by omega)⟩, (Below.refl _ _).alloc (Nat.le_refl _) _⟩
  have q0 : decide (l - (x0.size : Int) < 0) = false := by rw [decide_eq_false_iff_not]; omega
  by_cases c1 : l < x0.size + x1.size
  · have q1 : l - (x0.size : Int) - (x1.size : Int) < 0 := by omega
    go_enter Try.func69, Try.ntmps69
    go_wp2
    go_ret
    exact ⟨⟨-1, rfl, .inl (by omega)⟩, (Below.refl _ _).alloc (Nat.le_refl _) _⟩
  have q1 : decide (l - (x0.size : Int) - (x1.size : Int) < 0) = false := by rw [decide_eq_false_iff_not]; omega
  go_enter Try.func69, Try.ntmps69
  go_wp2
  go_ret
  exact ⟨⟨l - (x0.size : Int) - (x1.size : Int), rfl, .inr ⟨by omega, by omega, by omega⟩⟩, (Below.refl _ _).alloc (Nat.le_refl _) _⟩
set_option maxRecDepth 10000 in
set_option maxHeartbeats 1000000 in
theorem toGrant_any (x0 : ByteArray) (x1 : ByteArray) (x2 : Int) (w : World) :
    Calls Try.prog 70 #[.agg #[.string x0, .string x1, .int .i64 x2]] w fun e w' => e = .returned (.agg #[.string x0, .string x1, .int .i64 x2]) ∧ Below w.heap.size w w' := by
  go_enter Try.func70, Try.ntmps70
  go_wp2
  exact bodyPost_ret (v := .agg #[.string x0, .string x1, .int .i64 x2]) (by simp [results, Try.results70, go_sem]) rfl ⟨rfl, (((Below.refl _ _).alloc (Nat.le_refl _) _).alloc (by simp) _).alloc (by simp; omega) _⟩
set_option maxRecDepth 10000 in
set_option maxHeartbeats 1000000 in
theorem eqGrant_any (x0 : ByteArray) (x1 : ByteArray) (x2 : Int) (w : World) :
    Calls Try.prog 71 #[.agg #[.string x0, .string x1, .int .i64 x2], .agg #[.string x0, .string x1, .int .i64 x2]] w fun e w' => e = .returned (.bool true) ∧ Below w.heap.size w w' := by
  go_enter Try.func71, Try.ntmps71
  go_wp2
  go_ret
  exact ⟨rfl, ((Below.refl _ _).alloc (Nat.le_refl _) _).alloc (by simp) _⟩
end Go.Proofs.Ytecaeolgheefmaa

/- A struct of 3 one-cell fields, by value, opened. -/
namespace Go.Proofs.Ytecaeolgheefmaa
open Go.ChangeShapes Go.WideShapes Go.ChangeAt Go.RowKit Go.Joins Go.Deep

theorem array3 {α : Type} {cs : Array α} (h : cs.size = 3) : ∃ c0 c1 c2, cs = #[c0, c1, c2] := by
  obtain ⟨l⟩ := cs
  match l, h with
  | [c0, c1, c2], _ => exact ⟨c0, c1, c2, rfl⟩
theorem trod_struct3 {H : Type} {enc : TypeId × Value → H} {P : Program} {w : World} {base : Nat} {spare : Nat → Bool} {held : Bool} {t : TypeId} {f0 f1 f2 : Field} {fuel : Nat} {cs : List Value} {x : DataW H × List MemPlace} (ht : P.underlying t = some (.struct #[f0, f1, f2])) (h : DataW.trod enc P w base spare held fuel t cs = some x) :
    ∃ (y0 y1 y2 : DataW H × List MemPlace) (n : Nat), DataW.trod enc P w base spare held n f0.type ((cs.drop f0.offset).take (P.cellsOf f0.type)) = some y0 ∧ DataW.trod enc P w base spare held n f1.type ((cs.drop f1.offset).take (P.cellsOf f1.type)) = some y1 ∧ DataW.trod enc P w base spare held n f2.type ((cs.drop f2.offset).take (P.cellsOf f2.type)) = some y2 := by
  obtain ⟨xs, n, _, rfl, hl, hlen, hf⟩ := DataW.trod_struct ht h
  match xs, hlen with
  | [y0, y1, y2], _ => exact ⟨y0, y1, y2, n, by simpa using hf 0 f0 rfl, by simpa using hf 1 f1 rfl, by simpa using hf 2 f2 rfl⟩
theorem open_agg3 {H : Type} {enc : TypeId × Value → H} {P : Program} {w : World} {base : Nat} {spare : Nat → Bool} {held : Bool} {r : Reach} {b0 : Nat} {t : TypeId} {f0 f1 f2 : Field} {v : Value} {d : DataW H} {p : List MemPlace} (hs : P.underlying t = some (.struct #[f0, f1, f2])) (hone : oneCellFields P #[f0, f1, f2] = true) (hC : P.cellsOf t = 3)
    (hv : Value.okWide P w r b0 t v) (h : DataW.Trod enc P w base spare held t v d p) :
    ∃ (c0 c1 c2 : Value) (y0 y1 y2 : DataW H × List MemPlace) (n : Nat), v = .agg #[c0, c1, c2] ∧ DataW.trod enc P w base spare held n f0.type [c0] = some y0 ∧ DataW.trod enc P w base spare held n f1.type [c1] = some y1 ∧ DataW.trod enc P w base spare held n f2.type [c2] = some y2 := by
  obtain ⟨cs, rfl, hsz⟩ := okWide_struct hs hv
  obtain ⟨c0, c1, c2, rfl⟩ := array3 (hsz.trans hC)
  obtain ⟨fuel, hf⟩ := h
  obtain ⟨y0, y1, y2, n, h0, h1, h2⟩ := trod_struct3 hs hf
  obtain ⟨o0, k0⟩ := hone_of hone 0 f0 rfl
  obtain ⟨o1, k1⟩ := hone_of hone 1 f1 rfl
  obtain ⟨o2, k2⟩ := hone_of hone 2 f2 rfl
  exact ⟨c0, c1, c2, y0, y1, y2, n, rfl, by simpa [Value.cells, o0, k0] using h0, by simpa [Value.cells, o1, k1] using h1, by simpa [Value.cells, o2, k2] using h2⟩
end Go.Proofs.Ytecaeolgheefmaa

/- A row of texts that a call owns, as a slice of texts. -/
namespace Go.Proofs.Ytecaeolgheefmaa
open Go.RowKit

def atL (L : List ByteArray) (j : Nat) : ByteArray := L.getD j ⟨#[]⟩
theorem slice_of_own {w : World} {B : Nat} {t : TypeId} {v : Value} {L : List ByteArray} (h : w.ownsRow B t 1 v L.length (strCells L)) : SliceS w B v L.length (atL L) := by
  obtain ⟨h1, ⟨rfl, h0⟩ | ⟨g, cap, cur, rfl, hg, h3, h4, h5, h6, h7⟩⟩ := h
  · exact ⟨none, 0, by rw [h0], fun h => absurd h (by omega)⟩
  · refine ⟨_, cap, rfl, fun hn => ⟨g, rfl, hg, ?_, fun j hj => ?_⟩⟩
    · exact (Array.getElem?_eq_some_iff.mp h3).1
    · have e : cur[j]? = some (.string (atL L j)) := by
        have e1 : (cur.toList.take (L.length * 1))[j]? = (strCells L)[j]? := by rw [h7]
        rw [List.getElem?_take_of_lt (by omega)] at e1
        rw [← Array.getElem?_toList, e1]
        simp [strCells, atL, hj]
      refine ⟨?_, ?_⟩
      · simp [World.cell?, h3, e]
      · simp [World.frozen?, h3]
theorem own_below {w w' : World} {B n : Nat} {e : TypeId} {v : Value} {xs : List Value} (h : w.ownsRow B e 1 v n xs) (hb : Below w.heap.size w w') : w'.ownsRow B e 1 v n xs := by
  obtain ⟨hl, h0 | ⟨g, cap, cur, rfl, hbg, hh, r⟩⟩ := h
  · exact ⟨hl, .inl h0⟩
  · have hg : g < w.heap.size := (Array.getElem?_eq_some_iff.mp hh).1
    exact ⟨hl, .inr ⟨g, cap, cur, rfl, hbg, by rw [hb.block g hg]; exact hh, r⟩⟩
end Go.Proofs.Ytecaeolgheefmaa

/- A slice of elements of several cells each. -/
namespace Go.Proofs.Ytecaeolgheefmaa
open Go.RowKit

/-- a slice of n elements of sz cells each, f of each place and cell, that lies from block B on -/
def SliceR (w : World) (B sz : Nat) (v : Value) (n : Nat) (f : Nat → Nat → Value) : Prop :=
  ∃ p cap, v = .slice p n cap ∧ (0 < n → ∃ g, p = some ⟨g, 0, none⟩ ∧ B ≤ g ∧ g < w.heap.size ∧ ∀ j, j < n → ∀ o, o < sz → w.cell? ⟨g, j * sz + o, none⟩ = some (f j o) ∧ w.frozen? ⟨g, j * sz + o, none⟩ = false)
theorem SliceR.below {w w' : World} {B sz n : Nat} {v : Value} {f : Nat → Nat → Value} (h : SliceR w B sz v n f) (hb : Below w.heap.size w w') : SliceR w' B sz v n f := by
  obtain ⟨p, cap, rfl, h⟩ := h
  refine ⟨p, cap, rfl, fun hn => ?_⟩
  obtain ⟨g, rfl, hB, hg, hc⟩ := h hn
  have hs := hb.size
  refine ⟨g, rfl, hB, by omega, fun j hj o ho => ⟨?_, ?_⟩⟩
  · rw [(bcell hb).1 _ _ hg]; exact (hc j hj o ho).1
  · rw [(bcell hb).2 _ _ hg]; exact (hc j hj o ho).2
/-- a row below B' stays while rows from B' on are written -/
theorem SliceR.kept {w w' : World} {B B' sz n : Nat} {v : Value} {f : Nat → Nat → Value} (h : SliceR w B sz v n f) (hb : Below B' w w') (hlt : 0 < n → ∀ g cap m, v = .slice (some ⟨g, 0, none⟩) m cap → g < B') : SliceR w' B sz v n f := by
  obtain ⟨p, cap, rfl, h⟩ := h
  refine ⟨p, cap, rfl, fun hn => ?_⟩
  obtain ⟨g, rfl, hB, hg, hc⟩ := h hn
  have hs := hb.size
  have hl := hlt hn g cap n rfl
  refine ⟨g, rfl, hB, by omega, fun j hj o ho => ⟨?_, ?_⟩⟩
  · rw [hb.cell (p := ⟨g, j * sz + o, none⟩) hl]; exact (hc j hj o ho).1
  · rw [hb.frozen (p := ⟨g, j * sz + o, none⟩) hl]; exact (hc j hj o ho).2
theorem SliceR.lt {w : World} {B sz n : Nat} {v : Value} {f : Nat → Nat → Value} (h : SliceR w B sz v n f) : 0 < n → ∀ g cap m, v = .slice (some ⟨g, 0, none⟩) m cap → g < w.heap.size := by
  obtain ⟨p, cap, rfl, h⟩ := h
  intro hn
  obtain ⟨g, rfl, hB, hg, hc⟩ := h hn
  intro g' cap' m e
  injection e with e1
  injection e1 with e1
  injection e1 with e1
  omega
theorem SliceR.mono {w : World} {B B' sz n : Nat} {v : Value} {f : Nat → Nat → Value} (h : SliceR w B sz v n f) (hB : B' ≤ B) : SliceR w B' sz v n f := by
  obtain ⟨p, cap, rfl, h⟩ := h
  refine ⟨p, cap, rfl, fun hn => ?_⟩
  obtain ⟨g, rfl, h1, h2⟩ := h hn
  exact ⟨g, rfl, by omega, h2⟩
theorem sliceR_none (w : World) (B sz : Nat) (p : Option Addr) (cap : Nat) (f : Nat → Nat → Value) : SliceR w B sz (.slice p 0 cap) 0 f := ⟨p, cap, rfl, fun h => absurd h (by omega)⟩
/-- a row that is owned, as a slice -/
theorem sliceR_of_own {w : World} {B sz n : Nat} {t : TypeId} {v : Value} {xs : List Value} {f : Nat → Nat → Value} (h : w.ownsRow B t sz v n xs) (hf : ∀ j, j < n → ∀ o, o < sz → xs[j * sz + o]? = some (f j o)) : SliceR w B sz v n f := by
  obtain ⟨h1, ⟨rfl, h0⟩ | ⟨g, cap, cur, rfl, hg, h3, h4, h5, h6, h7⟩⟩ := h
  · exact ⟨.none, 0, by rw [h0], fun h => absurd h (by omega)⟩
  · refine ⟨_, cap, rfl, fun hn => ⟨g, rfl, hg, (Array.getElem?_eq_some_iff.mp h3).1, fun j hj o ho => ?_⟩⟩
    have hlt : j * sz + o < n * sz := by
      have : (j + 1) * sz ≤ n * sz := Nat.mul_le_mul_right sz hj
      rw [Nat.add_mul, Nat.one_mul] at this; omega
    have e : cur[j * sz + o]? = some (f j o) := by
      have e1 : (cur.toList.take (n * sz))[j * sz + o]? = xs[j * sz + o]? := by rw [h7]
      rw [List.getElem?_take_of_lt hlt] at e1
      rw [← Array.getElem?_toList, e1]
      exact hf j hj o ho
    exact ⟨by simp [World.cell?, h3, e], by simp [World.frozen?, h3]⟩
theorem ownR_below {w w' : World} {B n sz : Nat} {e : TypeId} {v : Value} {xs : List Value} (h : w.ownsRow B e sz v n xs) (hb : Below w.heap.size w w') : w'.ownsRow B e sz v n xs := by
  obtain ⟨hl, h0 | ⟨g, cap, cur, rfl, hbg, hh, r⟩⟩ := h
  · exact ⟨hl, .inl h0⟩
  · have hg : g < w.heap.size := (Array.getElem?_eq_some_iff.mp hh).1
    exact ⟨hl, .inr ⟨g, cap, cur, rfl, hbg, by rw [hb.block g hg]; exact hh, r⟩⟩
theorem addr_blk (x : Addr) (k : Nat) : (x.add k).block = x.block := by unfold Addr.add; split <;> rfl
end Go.Proofs.Ytecaeolgheefmaa

/- The laws' eqStringS, markStringS, heldStringS. -/
namespace Go.Proofs.Ytecaeolgheefmaa
open Go.RowKit

end Go.Proofs.Ytecaeolgheefmaa

/- What the laws do with a Pair besides their calls: its size is looked at, it is handed on field by field, two are held against each other. -/
namespace Go.Proofs.Ytecaeolgheefmaa
open Go.RowKit

end Go.Proofs.Ytecaeolgheefmaa

/- What the laws do with a slice of Pairs besides their calls. Written by slices.py. -/
namespace Go.Proofs.Ytecaeolgheefmaa
open Go.RowKit

/-- the mark of each cell -/
def markPairC (q j o : Nat) : Value := .string (markT (q + j * 2 + o))
/-- one cell turned -/
def updR (f : Nat → Nat → Value) (k o : Nat) (u : Value) (j p : Nat) : Value := if j = k ∧ p = o then u else f j p
theorem SliceR.congr {w : World} {B sz n : Nat} {v : Value} {f h : Nat → Nat → Value} (hs : SliceR w B sz v n f) (he : ∀ j, j < n → ∀ o, o < sz → f j o = h j o) : SliceR w B sz v n h := by
  obtain ⟨p, cap, rfl, hg⟩ := hs
  refine ⟨p, cap, rfl, fun hn => ?_⟩
  obtain ⟨g, rfl, hB, hlt, hc⟩ := hg hn
  exact ⟨g, rfl, hB, hlt, fun j hj o ho => by rw [← he j hj o ho]; exact hc j hj o ho⟩
theorem SliceR.set {w : World} {B sz n m g cap : Nat} {f : Nat → Nat → Value} (hs : SliceR w B sz (.slice (some ⟨g, 0, none⟩) m cap) n f) (k o : Nat) (hk : k < n) (ho : o < sz) (u : Value) : SliceR (w.setCell ⟨g, k * sz + o, none⟩ u) B sz (.slice (some ⟨g, 0, none⟩) m cap) n (updR f k o u) := by
  obtain ⟨p, cap', e, hg⟩ := hs
  injection e with e1 e2 e3
  subst e1 e2 e3
  refine ⟨_, _, rfl, fun hn => ?_⟩
  obtain ⟨g', e, hB, hlt, hc⟩ := hg hn
  injection e with e
  injection e with e
  subst e
  refine ⟨g, rfl, hB, by simpa [World.setCell] using hlt, fun j hj p hp => ⟨?_, ?_⟩⟩
  · unfold updR
    by_cases hjp : j = k ∧ p = o
    · rw [if_pos hjp, hjp.1, hjp.2]; exact World.cell?_setCell_same _ _ _ (hc k hk o ho).1
    · rw [if_neg hjp, World.cell?_setCell_other _ _ _ _ (by
        intro h
        injection h with _ h
        apply hjp
        by_cases hjk : j = k
        · subst hjk; exact ⟨rfl, by omega⟩
        · exfalso
          rcases Nat.lt_or_gt_of_ne hjk with hl | hl
          · have : (j + 1) * sz ≤ k * sz := Nat.mul_le_mul_right sz hl
            rw [Nat.add_mul, Nat.one_mul] at this; omega
          · have : (k + 1) * sz ≤ j * sz := Nat.mul_le_mul_right sz hl
            rw [Nat.add_mul, Nat.one_mul] at this; omega)]
      exact (hc j hj p hp).1
  · rw [World.frozen?_setCell]; exact (hc j hj p hp).2
theorem grownG_below {a w w' : World} {G : Nat} (h : a.grownBy w (some G)) (hb : Below w.heap.size w w') : a.grownBy w' (some G) :=
  ⟨hb.os.trans h.os, hb.tape.trans h.tape, hb.output.trans h.output, Nat.le_trans h.size hb.size, fun k hk hne => (hb.block k (Nat.lt_of_lt_of_le hk h.size)).trans (h.block k hk hne)⟩
theorem grownG_set {a w : World} {G : Nat} (h : a.grownBy w (some G)) (o : Nat) (v : Value) : a.grownBy (w.setCell ⟨G, o, none⟩ v) (some G) :=
  ⟨h.os, h.tape, h.output, by simpa [World.setCell] using h.size, fun k hk hne => (Below.heap_setCell _ _ _ _ (fun e => hne (congrArg some e))).trans (h.block k hk hne)⟩
end Go.Proofs.Ytecaeolgheefmaa

/- What a list of cells holds, kept by whatever leaves old blocks as they were. -/
namespace Go.Proofs.Ytecaeolgheefmaa
open Go.RowKit
theorem cell_in {W : World} {p : Addr} {v : Value} (h : W.cell? p = some v) : p.block < W.heap.size := by
  by_cases hb : p.block < W.heap.size
  · exact hb
  · exfalso
    simp [World.cell?, Array.getElem?_eq_none (show W.heap.size ≤ p.block by omega)] at h
/-- what these cells hold -/
def Cells (W : World) : List (Addr × Value) → Prop
  | [] => True
  | p :: L => W.cell? p.1 = some p.2 ∧ Cells W L
theorem Cells.below {W W' : World} : ∀ {L : List (Addr × Value)}, Cells W L → Below W.heap.size W W' → Cells W' L
  | [], _, _ => trivial
  | _ :: _, h, hb => ⟨(@Below.cell _ _ _ hb _ (cell_in h.1)).trans h.1, Cells.below h.2 hb⟩
theorem Cells.join {W : World} : ∀ {L M : List (Addr × Value)}, Cells W L → Cells W M → Cells W (L ++ M)
  | [], _, _, h => h
  | _ :: _, _, h, k => ⟨h.1, Cells.join h.2 k⟩
/-- a slice of texts, wherever it lies -/
def SliceH (w : World) (v : Value) (n : Nat) (f : Nat → ByteArray) : Prop := Hid (SliceS w 0 v n f)
theorem SliceH.out {w : World} {v : Value} {n : Nat} {f : Nat → ByteArray} (h : SliceH w v n f) : SliceS w 0 v n f := Hid.out h
theorem strip {w : World} {B n : Nat} {v : Value} {f : Nat → ByteArray} (h : SliceS w B v n f) : SliceH w v n f := by
  obtain ⟨p, cap, rfl, h⟩ := h
  exact (⟨p, cap, rfl, fun hn => by obtain ⟨g, e, _, r⟩ := h hn; exact ⟨g, e, Nat.zero_le _, r⟩⟩ : SliceS w 0 _ n f)
theorem SliceH.below {w w' : World} {v : Value} {n : Nat} {f : Nat → ByteArray} (h : SliceH w v n f) (hb : Below w.heap.size w w') : SliceH w' v n f := SliceS.below h.out hb
end Go.Proofs.Ytecaeolgheefmaa

/- Slices of grants; a slice of grants that came in; the laws' szGrantS, toGrantS and eqGrantS over it. Written by rowsin.py. -/
namespace Go.Proofs.Ytecaeolgheefmaa
open Go.ChangeShapes Go.WideShapes Go.ChangeAt Go.RowKit Go.Joins Go.Deep

theorem gr_wf {n : Int} (h : (Lit.int .i64 n).wf = true) : -9223372036854775808 ≤ n ∧ n ≤ 9223372036854775807 := by
  simp [Lit.wf] at h
  have e1 : IntKind.i64.min = -9223372036854775808 := by decide
  have e2 : IntKind.i64.max = 9223372036854775807 := by decide
  omega
def atG (L : List Gr) (j : Nat) : Gr := L.getD j grNone
/-- the cells of grants -/
def grR (L : List Gr) (j o : Nat) : Value := grC (atG L j) o
/-- a slice of grants -/
def SliceG (w : World) (B : Nat) (v : Value) (L : List Gr) : Prop := SliceR w B 3 v L.length (grR L) ∧ ∃ p c, v = .slice p L.length c ∧ L.length ≤ c ∧ (p = none → c = 0)
theorem SliceG.below {w w' : World} {B : Nat} {v : Value} {L : List Gr} (h : SliceG w B v L) (hb : Below w.heap.size w w') : SliceG w' B v L := ⟨h.1.below hb, h.2⟩
theorem SliceG.mono {w : World} {B B' : Nat} {v : Value} {L : List Gr} (h : SliceG w B v L) (hB : B' ≤ B) : SliceG w B' v L := ⟨h.1.mono hB, h.2⟩
theorem trod_cellsGr {H : Type} {enc : TypeId × Value → H} {P : Program} {w : World} {base : Nat} {spare : Nat → Bool} {held : Bool} {t : TypeId} {f0 f1 f2 : Field} {fuel : Nat} {v0 v1 v2 : Value} {x : DataW H × List MemPlace} (ht : P.underlying t = some (.struct #[f0, f1, f2])) (hone : oneCellFields P #[f0, f1, f2] = true) (h : DataW.trod enc P w base spare held fuel t [v0, v1, v2] = some x) :
    ∃ (y0 y1 y2 : DataW H × List MemPlace) (n : Nat), DataW.trod enc P w base spare held n f0.type [v0] = some y0 ∧ DataW.trod enc P w base spare held n f1.type [v1] = some y1 ∧ DataW.trod enc P w base spare held n f2.type [v2] = some y2 := by
  obtain ⟨y0, y1, y2, n, h0, h1, h2⟩ := trod_struct3 ht h
  obtain ⟨o0, k0⟩ := hone_of hone 0 f0 rfl
  obtain ⟨o1, k1⟩ := hone_of hone 1 f1 rfl
  obtain ⟨o2, k2⟩ := hone_of hone 2 f2 rfl
  exact ⟨y0, y1, y2, n, by simpa [o0, k0] using h0, by simpa [o1, k1] using h1, by simpa [o2, k2] using h2⟩
/-- grants that a slice leads to -/
def GrRow (w : World) (a : Option Addr) (L : List Gr) : Prop := ∀ i, i < L.length → ∃ x, a = some x ∧ x.block < w.heap.size ∧ (∀ o, o < 3 → w.cell? (x.add (i * 3 + o)) = some (grC (atG L i) o)) ∧ (atG L i).tp.size ≤ maxLen ∧ (atG L i).si.size ≤ maxLen ∧ -9223372036854775808 ≤ (atG L i).un ∧ (atG L i).un ≤ 9223372036854775807
theorem GrRow.below {w w' : World} {a : Option Addr} {L : List Gr} (h : GrRow w a L) (hb : Below w.heap.size w w') : GrRow w' a L := by
  intro i hi
  obtain ⟨x, e, hx, hc, hs⟩ := h i hi
  exact ⟨x, e, Nat.lt_of_lt_of_le hx hb.size, fun o ho => by rw [hb.cell (p := x.add (i * 3 + o)) (by rw [addr_blk]; exact hx)]; exact hc o ho, hs⟩
theorem listGr {α : Type} {cs : List α} (h : cs.length = 3) : ∃ c0 c1 c2, cs = [c0, c1, c2] := by
  match cs, h with
  | [c0, c1, c2], _ => exact ⟨c0, c1, c2, rfl⟩
set_option maxRecDepth 10000 in
set_option maxHeartbeats 4000000 in
theorem grRow_of {H : Type} {enc : TypeId × Value → H} {W : World} {a : Option Addr} {len cap : Nat} {d : DataW H} {p : List MemPlace}
    (h : ∃ fuel, DataW.trod enc Try.prog W 0 (fun _ => true) true fuel 46 (Value.slice a len cap).cells.toList = some (d, p)) : (∃ L, L.length = len ∧ GrRow W a L) ∧ len ≤ maxLen := by
  obtain ⟨fuel, hf⟩ := h
  rcases Go.Deep.open_slice Try.underlying46 hf with ⟨hcs, _⟩ | ⟨x, l, c, m, n, D, Pl, hcs, _, hl, hm, hmm, _, hcell⟩
  · simp [Value.cells] at hcs
    obtain ⟨rfl, rfl, rfl⟩ := hcs
    exact ⟨⟨[], rfl, fun i hi => absurd hi (by simp)⟩, Nat.zero_le _⟩
  · simp [Value.cells] at hcs
    obtain ⟨rfl, rfl, rfl⟩ := hcs
    have hmc : m = cap := by simpa using hmm
    have ce : Try.prog.cellsOf 87 = 3 := by kernel_rfl
    have each : ∀ i, i < len → ∃ q : Gr, (∀ o, o < 3 → W.cell? (x.add (i * 3 + o)) = some (grC q o)) ∧ q.tp.size ≤ maxLen ∧ q.si.size ≤ maxLen ∧ -9223372036854775808 ≤ q.un ∧ q.un ≤ 9223372036854775807 := fun i hi => by
      obtain ⟨cs', h1, h2⟩ := hcell i (by omega)
      rw [ce] at h1
      obtain ⟨_, hlen, hc⟩ := World.cells?_some h1
      obtain ⟨v0, v1, v2, rfl⟩ := listGr hlen
      obtain ⟨y0, y1, y2, n', g0, g1, g2⟩ := trod_cellsGr Try.underlying87 (by kernel_rfl) h2
      obtain ⟨s0, e0, -, z0⟩ := DataW.trod_string Try.underlying9 g0
      obtain ⟨s1, e1, -, z1⟩ := DataW.trod_string Try.underlying9 g1
      obtain ⟨s2, e2, -, z2⟩ := DataW.trod_int Try.underlying2 g2
      simp only [List.cons.injEq, and_true] at e0 e1 e2
      subst e0 e1 e2
      refine ⟨⟨s0, s1, s2⟩, fun o ho => ?_, z0, z1, (gr_wf z2).1, (gr_wf z2).2⟩
      have hco := hc o ho
      rw [add_add] at hco
      rw [hco]
      match o, ho with
      | 0, _ => rfl
      | 1, _ => rfl
      | 2, _ => rfl
    obtain ⟨q, hq⟩ := @Go.Deep.choose_lt Gr ⟨grNone⟩ len _ each
    refine ⟨⟨(List.range len).map q, by simp, fun i hi => ?_⟩, by omega⟩
    have hi' : i < len := by simpa using hi
    have e : atG ((List.range len).map q) i = q i := by simp [atG, hi']
    rw [e]
    refine ⟨x, rfl, ?_, hq i hi'⟩
    have := World.block_lt_of_cell? W _ ((hq i hi').1 0 (by omega))
    rw [addr_blk] at this; exact this
set_option maxRecDepth 10000 in
set_option maxHeartbeats 4000000 in
theorem szGrantS_any (a : Option Addr) (cap : Nat) (L : List Gr) (l : Int) (w : World) (hr : GrRow w a L) (hn : L.length ≤ maxLen) (h0 : 0 ≤ l) (h1 : l ≤ 1048576) :
    Calls Try.prog 29 #[.slice a L.length cap, .int .i64 l] w fun e w' => (∃ r : Int, e = .returned (.int .i64 r) ∧ (r < 0 ∨ (0 ≤ r ∧ r ≤ 1048576 ∧ L.length ≤ 1048576 ∧ ∀ i, i < L.length → (atG L i).tp.size + (atG L i).si.size ≤ 1048576))) ∧ Below w.heap.size w w' := by
  unfold maxLen at hn
  by_cases hl : l < L.length
  · have q : decide (l - (L.length : Int) < 0) = true := by rw [decide_eq_true_iff]; omega
    go_enter Try.func29, Try.ntmps29
    go_wp2
    go_ret
    exact ⟨⟨_, rfl, .inl (by decide)⟩, Below.refl _ _⟩
  have q : decide (l - (L.length : Int) < 0) = false := by rw [decide_eq_false_iff_not]; omega
  have HR : Hid (GrRow w a L) := hr
  clear hr
  go_enter Try.func29, Try.ntmps29
  go_wp2
  go_loopw [1, 5] (fun v i wr => ∃ (k : Nat) (z : Int), k ≤ L.length ∧ v = .int .i64 z ∧ i = .int .i64 k ∧ 0 ≤ z ∧ z ≤ 1048576 ∧ Hid (∀ i, i < k → (atG L i).tp.size + (atG L i).si.size ≤ 1048576) ∧ Hid (Below w.heap.size w wr)) (fun _ i _ => L.length - (intOf i).toNat)
  case atStart => exact ⟨0, _, Nat.zero_le _, rfl, rfl, by omega, by omega, fun i hi => absurd hi (by omega), Below.refl _ _⟩
  case round =>
    obtain ⟨k, z, hk, rfl, rfl, z0, zl, HS, HB⟩ := hrel
    by_cases hlt : k < L.length
    · obtain ⟨x, rfl, hx, hc, hs0, hs1, -⟩ := HR.out.below HB.out k hlt
      have c0 : wr.cell? (x.add (k * 3)) = some (.string (atG L k).tp) := hc 0 (by omega)
      have c1 : wr.cell? ⟨(x.add (k * 3)).block, (x.add (k * 3)).off + 1, none⟩ = some (.string (atG L k).si) := by rw [show (.string (atG L k).si) = grC (atG L k) 1 from rfl, ← hc 1 (by omega), ← add_add]; rfl
      have c2 : wr.cell? ⟨(x.add (k * 3)).block, (x.add (k * 3)).off + 2, none⟩ = some (.int .i64 (atG L k).un) := by rw [show (.int .i64 (atG L k).un) = grC (atG L k) 2 from rfl, ← hc 2 (by omega), ← add_add]; rfl
      have KZ : Hid (∀ W, Calls Try.prog 69 #[.agg #[.string (atG L k).tp, .string (atG L k).si, .int .i64 (atG L k).un], .int .i64 z] W fun e w' => (∃ r : Int, e = .returned (.int .i64 r) ∧ (r < 0 ∨ (0 ≤ r ∧ r ≤ 1048576 ∧ (atG L k).tp.size + (atG L k).si.size ≤ 1048576))) ∧ Below W.heap.size W w') := fun W => szGrant_at (atG L k).tp (atG L k).si (atG L k).un z W hs0 hs1 z0 zl
      have k0 : (0 : Int) ≤ k := by omega
      have k1 : (k : Int) < L.length := by omega
      have HN : Hid ((atG L k).tp.size + (atG L k).si.size ≤ 1048576 → ∀ i, i < k + 1 → (atG L i).tp.size + (atG L i).si.size ≤ 1048576) := fun hs i hi => by
        by_cases e : i = k
        · subst e; exact hs
        · exact HS.out i (by omega)
      clear hc hs0 hs1
      generalize atG L k = y at *
      obtain ⟨tp, si, un⟩ := y
      dsimp only at *
      go_wp2_with fail
      refine (KZ.out _).mono ?_
      rintro e w1 ⟨⟨r, rfl, hr⟩, hb1⟩
      have B1 : Hid (Below w.heap.size w w1) := HB.out.trans (hb1.mono HB.out.size)
      clear hb1 c0 c1 c2
      rcases hr with hr | ⟨r0, r1, hsum⟩
      · have q2 : decide (r < 0) = true := by rw [decide_eq_true_iff]; exact hr
        go_wp2
        go_ret
        exact ⟨⟨_, rfl, .inl (by decide)⟩, B1.out⟩
      · have q2 : decide (r < 0) = false := by rw [decide_eq_false_iff_not]; omega
        have HN2 : Hid (∀ i, i < k + 1 → (atG L i).tp.size + (atG L i).si.size ≤ 1048576) := HN.out hsum
        clear hsum
        go_wp2
        go_roundw
        case rel => exact ⟨k + 1, r, by omega, rfl, by go_num, r0, r1, HN2, B1⟩
        case measure => simp [intOf]; omega
    · go_wp2
      go_ret
      exact ⟨⟨_, rfl, .inr ⟨z0, zl, by omega, fun i hi => HS.out i (by omega)⟩⟩, HB.out⟩
theorem infoGrant : (Try.prog.info? 64).map (fun i => (i.zero, i.size, i.bytes)) = some (some (.agg #[.string ⟨#[]⟩, .string ⟨#[]⟩, .int .i64 0]), 3, 40) := by kernel_rfl
/-- the first k as they are, the others empty -/
def uptoG (L : List Gr) (k j o : Nat) : Value := if j < k then grC (atG L j) o else grC grNone o
theorem make_Grants (w : World) (n : Nat) (hn : n ≤ 1048576) :
    ∃ w', Sem.run Try.prog (Instr.makeSlice 23 (.int .i64 (n : Int)) (.int .i64 (n : Int))) w = .ok (.slice (some ⟨w.heap.size, 0, none⟩) n n) w' ∧ SliceR w' w.heap.size 3 (.slice (some ⟨w.heap.size, 0, none⟩) n n) n (fun _ o => grC grNone o) ∧ w.heap.size < w'.heap.size ∧ Below w.heap.size w w' := by
  obtain ⟨i, h2, h3, h4, h5⟩ := info_parts infoGrant
  have hrun := run_make (P := Try.prog) w 23 64 i (.agg #[.string ⟨#[]⟩, .string ⟨#[]⟩, .int .i64 0]) Try.underlying23 h2 h3 .i64 .i64 n n (by omega) (Int.le_refl _) (by rw [h5]; omega) (by omega)
  simp only [Int.toNat_natCast, h4] at hrun
  refine ⟨_, hrun, ?_, by simp, (Below.refl _ _).alloc (Nat.le_refl _) _⟩
  refine ⟨_, _, rfl, fun _ => ⟨w.heap.size, rfl, Nat.le_refl _, by simp, fun j hj o ho => ⟨?_, by simp⟩⟩⟩
  rw [World.cell?_alloc_new]
  have hz : j * 3 + o < n * 3 := by omega
  have hm : (j * 3 + o) % 3 = o := by omega
  have e : (madeCells (Value.agg #[.string ⟨#[]⟩, .string ⟨#[]⟩, .int .i64 0]).cells (n * 3))[j * 3 + o]? = some (grC grNone o) := by
    rw [Array.getElem?_eq_some_iff]
    refine ⟨by rw [size_madeCells]; exact hz, ?_⟩
    unfold madeCells
    rw [Array.getElem_map, Array.getElem_range]
    show (#[.string ⟨#[]⟩, .string ⟨#[]⟩, .int .i64 0] : Array Value)[(j * 3 + o) % 3]! = _
    rw [hm]
    match o, ho with
    | 0, _ => rfl
    | 1, _ => rfl
    | 2, _ => rfl
  exact e
/-- ten cells written: one grant put at its place -/
theorem SliceR.putGr {w : World} {B n m g cap : Nat} {f : Nat → Nat → Value} (hs : SliceR w B 3 (.slice (some ⟨g, 0, none⟩) m cap) n f) (k : Nat) (hk : k < n) (c : Gr) :
    SliceR (((w.setCell ⟨g, k * 3 + 0, none⟩ (.string c.tp)).setCell ⟨g, k * 3 + 1, none⟩ (.string c.si)).setCell ⟨g, k * 3 + 2, none⟩ (.int .i64 c.un)) B 3 (.slice (some ⟨g, 0, none⟩) m cap) n (fun j o => if j = k then grC c o else f j o) := by
  refine SliceR.congr (SliceR.set (SliceR.set (SliceR.set (hs) k 0 hk (by omega) _) k 1 hk (by omega) _) k 2 hk (by omega) _) (fun j hj o ho => ?_)
  by_cases e : j = k
  · subst e
    match o, ho with
    | 0, _ => simp [updR, grC]
    | 1, _ => simp [updR, grC]
    | 2, _ => simp [updR, grC]
  · simp [updR, e]
set_option maxRecDepth 10000 in
set_option maxHeartbeats 4000000 in
theorem toGrantS_any (a : Option Addr) (cap : Nat) (L : List Gr) (w : World) (hr : GrRow w a L) (hn : L.length ≤ 1048576) :
    Calls Try.prog 30 #[.slice a L.length cap] w fun e w' => ∃ v, e = .returned v ∧ SliceG w' w.heap.size v L ∧ Below w.heap.size w w' := by
  have HR : Hid (GrRow w a L) := hr
  clear hr
  obtain ⟨w1, hmk, hs1, hz1, hb1⟩ := make_Grants w L.length hn
  have HS1 : Hid (SliceR w1 w.heap.size 3 (.slice (some ⟨w.heap.size, 0, none⟩) L.length L.length) L.length (uptoG L 0)) := SliceR.congr hs1 (fun j _ o _ => by unfold uptoG; rw [if_neg (by omega)])
  have HB1 : Hid (Below w.heap.size w w1) := hb1
  clear hs1 hb1
  go_enter Try.func30, Try.ntmps30
  go_wp2
  clear hmk
  go_loopw [4] (fun i wr => ∃ k : Nat, k ≤ L.length ∧ i = .int .i64 k ∧ Hid (SliceR wr w.heap.size 3 (.slice (some ⟨w.heap.size, 0, none⟩) L.length L.length) L.length (uptoG L k)) ∧ Hid (Below w.heap.size w wr)) (fun i _ => L.length - (intOf i).toNat)
  case atStart => exact ⟨0, Nat.zero_le _, rfl, HS1, HB1⟩
  case round =>
    obtain ⟨k, hk, rfl, HS, HB⟩ := hrel
    by_cases hlt : k < L.length
    · obtain ⟨x, rfl, hx, hc, -⟩ := HR.out.below HB.out k hlt
      have c0 : wr.cell? (x.add (k * 3)) = some (.string (atG L k).tp) := hc 0 (by omega)
      have c1 : wr.cell? ⟨(x.add (k * 3)).block, (x.add (k * 3)).off + 1, none⟩ = some (.string (atG L k).si) := by rw [show (.string (atG L k).si) = grC (atG L k) 1 from rfl, ← hc 1 (by omega), ← add_add]; rfl
      have c2 : wr.cell? ⟨(x.add (k * 3)).block, (x.add (k * 3)).off + 2, none⟩ = some (.int .i64 (atG L k).un) := by rw [show (.int .i64 (atG L k).un) = grC (atG L k) 2 from rfl, ← hc 2 (by omega), ← add_add]; rfl
      have KT : Hid (∀ W, Calls Try.prog 70 #[.agg #[.string (atG L k).tp, .string (atG L k).si, .int .i64 (atG L k).un]] W fun e w' => e = .returned (.agg #[.string (atG L k).tp, .string (atG L k).si, .int .i64 (atG L k).un]) ∧ Below W.heap.size W w') := fun W => toGrant_any _ _ _ W
      have HP : Hid (∀ w2 f, SliceR w2 w.heap.size 3 (.slice (some ⟨w.heap.size, 0, none⟩) L.length L.length) L.length f → SliceR (((w2.setCell ⟨w.heap.size, k * 3 + 0, none⟩ (.string (atG L k).tp)).setCell ⟨w.heap.size, k * 3 + 1, none⟩ (.string (atG L k).si)).setCell ⟨w.heap.size, k * 3 + 2, none⟩ (.int .i64 (atG L k).un)) w.heap.size 3 (.slice (some ⟨w.heap.size, 0, none⟩) L.length L.length) L.length (fun j o => if j = k then grC (atG L k) o else f j o)) := fun w2 f hh => SliceR.putGr hh k hlt (atG L k)
      have HU : Hid (∀ j o, (if j = k then grC (atG L k) o else uptoG L k j o) = uptoG L (k + 1) j o) := fun j o => by
        unfold uptoG
        by_cases e : j = k
        · subst e; rw [if_pos rfl, if_pos (by omega)]
        · rw [if_neg e]
          by_cases h : j < k
          · rw [if_pos h, if_pos (by omega)]
          · rw [if_neg h, if_neg (by omega)]
      have k0 : (0 : Int) ≤ k := by omega
      have k1 : (k : Int) < L.length := by omega
      clear hc
      generalize atG L k = y at *
      obtain ⟨tp, si, un⟩ := y
      dsimp only at *
      go_wp2_with fail
      refine (KT.out _).mono ?_
      rintro e w2 ⟨rfl, hb2⟩
      have S2 : Hid (SliceR w2 w.heap.size 3 (.slice (some ⟨w.heap.size, 0, none⟩) L.length L.length) L.length (uptoG L k)) := SliceR.below HS.out hb2
      have B2 : Hid (Below w.heap.size w w2) := HB.out.trans (hb2.mono HB.out.size)
      clear hb2 hx c0 c1 c2
      obtain ⟨d0, f0, d1, f1, d2, f2⟩ : w2.cell? ⟨w.heap.size, k * 3, none⟩ = some (uptoG L k k 0) ∧ w2.frozen? ⟨w.heap.size, k * 3, none⟩ = false ∧ w2.cell? ⟨w.heap.size, k * 3 + 1, none⟩ = some (uptoG L k k 1) ∧ w2.frozen? ⟨w.heap.size, k * 3 + 1, none⟩ = false ∧ w2.cell? ⟨w.heap.size, k * 3 + 2, none⟩ = some (uptoG L k k 2) ∧ w2.frozen? ⟨w.heap.size, k * 3 + 2, none⟩ = false := by
        obtain ⟨p, c, e, hh⟩ := S2.out
        injection e with e1
        obtain ⟨g, e2, -, -, hc⟩ := hh (by omega)
        rw [e2] at e1
        injection e1 with e1
        injection e1 with e1
        subst e1
        exact ⟨(hc k hlt 0 (by omega)).1, (hc k hlt 0 (by omega)).2, (hc k hlt 1 (by omega)).1, (hc k hlt 1 (by omega)).2, (hc k hlt 2 (by omega)).1, (hc k hlt 2 (by omega)).2⟩
      generalize uptoG L k k 0 = z0 at *
      generalize uptoG L k k 1 = z1 at *
      generalize uptoG L k k 2 = z2 at *
      have HN : Hid (SliceR (((w2.setCell ⟨w.heap.size, k * 3 + 0, none⟩ (.string tp)).setCell ⟨w.heap.size, k * 3 + 1, none⟩ (.string si)).setCell ⟨w.heap.size, k * 3 + 2, none⟩ (.int .i64 un)) w.heap.size 3 (.slice (some ⟨w.heap.size, 0, none⟩) L.length L.length) L.length (uptoG L (k + 1))) := SliceR.congr (HP.out w2 _ S2.out) (fun j hj o ho => HU.out j o)
      go_wp2
      go_roundw
      case rel => exact ⟨k + 1, by omega, by go_num, HN, ((B2.out.setCell (Nat.le_refl _) _).setCell (Nat.le_refl _) _).setCell (Nat.le_refl _) _⟩
      case measure => simp [intOf]; omega
    · go_wp2
      go_ret
      refine ⟨_, rfl, ⟨?_, _, _, rfl, Nat.le_refl _, fun h => by cases h⟩, HB.out⟩
      exact SliceR.congr HS.out (fun j hj o ho => by unfold uptoG grR; rw [if_pos (by omega)])
set_option maxRecDepth 10000 in
set_option maxHeartbeats 8000000 in
theorem eqGrantS_any (a b : Value) (L : List Gr) (B B' : Nat) (w : World) (ha : SliceG w B a L) (hb : SliceG w B' b L) (hn : L.length ≤ 1048576) :
    Calls Try.prog 31 #[a, b] w fun e w' => e = .returned (.bool true) ∧ Below w.heap.size w w' := by
  obtain ⟨⟨p, cap, rfl, h1⟩, -⟩ := ha
  obtain ⟨⟨p', cap', rfl, h2⟩, -⟩ := hb
  have H1 : Hid (0 < L.length → ∃ g, p = some ⟨g, 0, none⟩ ∧ B ≤ g ∧ g < w.heap.size ∧ ∀ j, j < L.length → ∀ o, o < 3 → w.cell? ⟨g, j * 3 + o, none⟩ = some (grR L j o) ∧ w.frozen? ⟨g, j * 3 + o, none⟩ = false) := h1
  have H2 : Hid (0 < L.length → ∃ g, p' = some ⟨g, 0, none⟩ ∧ B' ≤ g ∧ g < w.heap.size ∧ ∀ j, j < L.length → ∀ o, o < 3 → w.cell? ⟨g, j * 3 + o, none⟩ = some (grR L j o) ∧ w.frozen? ⟨g, j * 3 + o, none⟩ = false) := h2
  clear h1 h2
  go_enter Try.func31, Try.ntmps31
  go_wp2
  go_loopw [5] (fun i wr => ∃ k : Nat, k ≤ L.length ∧ i = .int .i64 k ∧ Hid (Below w.heap.size w wr)) (fun i _ => L.length - (intOf i).toNat)
  case atStart => exact ⟨0, by omega, rfl, Below.refl _ _⟩
  case round =>
    obtain ⟨k, hk, rfl, HB⟩ := hrel
    by_cases hlt : k < L.length
    · obtain ⟨g, rfl, -, hg, hc⟩ := H1.out (by omega)
      obtain ⟨g', rfl, -, hg', hc'⟩ := H2.out (by omega)
      have hgr : g < wr.heap.size := Nat.lt_of_lt_of_le hg HB.out.size
      have hgr' : g' < wr.heap.size := Nat.lt_of_lt_of_le hg' HB.out.size
      have hx : ∀ o, o < 3 → wr.cell? ⟨g, k * 3 + o, none⟩ = some (grC (atG L k) o) := fun o ho => by rw [(bcell HB.out).1 _ _ hg]; exact (hc k hlt o ho).1
      have hx' : ∀ o, o < 3 → wr.cell? ⟨g', k * 3 + o, none⟩ = some (grC (atG L k) o) := fun o ho => by rw [(bcell HB.out).1 _ _ hg']; exact (hc' k hlt o ho).1
      have c0 : wr.cell? ⟨g, k * 3, none⟩ = some (.string (atG L k).tp) := hx 0 (by omega)
      have d0 : wr.cell? ⟨g', k * 3, none⟩ = some (.string (atG L k).tp) := hx' 0 (by omega)
      have c1 : wr.cell? ⟨g, k * 3 + 1, none⟩ = some (.string (atG L k).si) := hx 1 (by omega)
      have d1 : wr.cell? ⟨g', k * 3 + 1, none⟩ = some (.string (atG L k).si) := hx' 1 (by omega)
      have c2 : wr.cell? ⟨g, k * 3 + 2, none⟩ = some (.int .i64 (atG L k).un) := hx 2 (by omega)
      have d2 : wr.cell? ⟨g', k * 3 + 2, none⟩ = some (.int .i64 (atG L k).un) := hx' 2 (by omega)
      have k0 : (0 : Int) ≤ k := by omega
      have k1 : (k : Int) < L.length := by omega
      clear hc hc' hx hx'
      have KE : Hid (∀ W, Calls Try.prog 71 #[.agg #[.string (atG L k).tp, .string (atG L k).si, .int .i64 (atG L k).un], .agg #[.string (atG L k).tp, .string (atG L k).si, .int .i64 (atG L k).un]] W fun e w' => e = .returned (.bool true) ∧ Below W.heap.size W w') := fun W => eqGrant_any (atG L k).tp (atG L k).si (atG L k).un W
      generalize atG L k = y at *
      obtain ⟨tp, si, un⟩ := y
      dsimp only at *
      go_wp2_with fail
      go_region_held3 (fun w' => w'.cell? ⟨g, k * 3, none⟩ = some (.string tp) ∧ w'.cell? ⟨g, k * 3 + 1, none⟩ = some (.string si) ∧ w'.cell? ⟨g, k * 3 + 2, none⟩ = some (.int .i64 un) ∧ w'.cell? ⟨g', k * 3, none⟩ = some (.string tp) ∧ w'.cell? ⟨g', k * 3 + 1, none⟩ = some (.string si) ∧ w'.cell? ⟨g', k * 3 + 2, none⟩ = some (.int .i64 un)) (go_keep)
        (first | (go_at_call 71; refine (KE.out _).mono ?_; rintro e w2 ⟨rfl, hb2⟩; have A2 : Below wr.heap.size wr w2 := (Below.drew (Below.refl _ _)).trans hb2; have l0 : w2.cell? ⟨g, k * 3, none⟩ = some (.string tp) := ((bcell A2).1 _ _ hgr).trans c0; have m0 : w2.cell? ⟨g', k * 3, none⟩ = some (.string tp) := ((bcell A2).1 _ _ hgr').trans d0; have l1 : w2.cell? ⟨g, k * 3 + 1, none⟩ = some (.string si) := ((bcell A2).1 _ _ hgr).trans c1; have m1 : w2.cell? ⟨g', k * 3 + 1, none⟩ = some (.string si) := ((bcell A2).1 _ _ hgr').trans d1; have l2 : w2.cell? ⟨g, k * 3 + 2, none⟩ = some (.int .i64 un) := ((bcell A2).1 _ _ hgr).trans c2; have m2 : w2.cell? ⟨g', k * 3 + 2, none⟩ = some (.int .i64 un) := ((bcell A2).1 _ _ hgr').trans d2))
      all_goals go_wp2
      all_goals go_roundw
      case rel => exact ⟨k + 1, by omega, by go_num, HB.out.trans (A2.mono HB.out.size)⟩
      case measure => simp [intOf]; omega
    · go_wp2
      go_ret
      exact ⟨rfl, HB.out⟩
end Go.Proofs.Ytecaeolgheefmaa

/- Where an owned row lies. -/
namespace Go.Proofs.Ytecaeolgheefmaa
open Go.RowKit
theorem own_base {w : World} {B n sz : Nat} {e : TypeId} {v : Value} {xs : List Value} (h : w.ownsRow B e sz v n xs) : ∀ j, v.ownBlock = some j → B ≤ j := by
  intro j hj
  obtain ⟨_, ⟨rfl, _⟩ | ⟨g, cap, cur, rfl, hB, _⟩⟩ := h
  · cases hj
  · have : g = j := Option.some.inj hj
    omega
end Go.Proofs.Ytecaeolgheefmaa

/- Rows of grants that a call owns. Written by rowsown.py. -/
namespace Go.Proofs.Ytecaeolgheefmaa
open Go.RowKit

/-- the cells of one -/
def grVals (c : Gr) : List Value := [.string c.tp, .string c.si, .int .i64 c.un]
def grCells : List Gr → List Value
  | [] => []
  | c :: L => grVals c ++ grCells L
theorem grCells_snoc (L : List Gr) (c : Gr) : grCells L ++ grVals c = grCells (L ++ [c]) := by
  induction L with
  | nil => simp [grCells]
  | cons q L ih => simp only [grCells, List.cons_append, List.append_assoc, ih]
theorem grCells_len (L : List Gr) : (grCells L).length = L.length * 3 := by
  induction L with
  | nil => rfl
  | cons q L ih => simp only [grCells, List.length_append, ih, List.length_cons]; show 3 + _ = _; omega
theorem grVals_at (c : Gr) : ∀ o, o < 3 → (grVals c)[o]? = some (grC c o)
  | 0, _ => rfl
  | 1, _ => rfl
  | 2, _ => rfl
theorem grCells_at : ∀ (L : List Gr) (j : Nat), j < L.length → ∀ o, o < 3 → (grCells L)[j * 3 + o]? = some (grR L j o)
  | [], j, h, _, _ => by simp at h
  | c :: L, 0, _, o, ho => by
    rw [Nat.zero_mul, Nat.zero_add, grCells, List.getElem?_append_left (by show o < 3; exact ho), grVals_at c o ho]
    rfl
  | c :: L, j + 1, h, o, ho => by
    have ih := grCells_at L j (by simpa using h) o ho
    have hl : (grVals c).length = 3 := rfl
    rw [grCells, List.getElem?_append_right (by rw [hl]; omega), hl, show (j + 1) * 3 + o - 3 = j * 3 + o by omega, ih]
    simp [grR, atG]
theorem sliceG_of_own {w : World} {B : Nat} {t : TypeId} {v : Value} {L : List Gr} (h : w.ownsRow B t 3 v L.length (grCells L)) : SliceG w B v L := by
  refine ⟨sliceR_of_own h (grCells_at L), ?_⟩
  obtain ⟨_, ⟨rfl, h0⟩ | ⟨g, cap, cur, rfl, _, _, hc, _⟩⟩ := h
  · exact ⟨none, 0, by rw [h0], by omega, fun _ => rfl⟩
  · exact ⟨_, cap, rfl, hc, fun h => by cases h⟩
theorem sliceG_none (w : World) (B : Nat) : SliceG w B (.slice none 0 0) [] := ⟨sliceR_none _ _ _ _ _ _, none, 0, rfl, Nat.le_refl _, fun _ => rfl⟩
theorem cell_Gr (w : World) (c : Gr) (t : TypeId) : ∀ j u, (grVals c)[j]? = some u → (w.alloc (.cells #[.string c.tp, .string c.si, .int .i64 c.un] t)).cell? ((⟨w.heap.size, 0, none⟩ : Addr).add j) = some u := by
  intro j u h
  have e : (⟨w.heap.size, 0, none⟩ : Addr).add j = ⟨w.heap.size, j, none⟩ := by unfold Addr.add; split <;> simp_all
  rw [e, World.cell?_alloc_new, ← Array.getElem?_toList]
  exact h
theorem one_Gr (c : Gr) : ∀ v ∈ grVals c, v.oneCell' = true := by
  intro u hu
  simp only [grVals, List.mem_cons, List.not_mem_nil, or_false] at hu
  rcases hu with rfl | rfl | rfl <;> rfl
/-- a row of them, kept while other blocks are written -/
theorem ownG_keep {w w' : World} {B n sz : Nat} {row : Option Nat} {e : TypeId} {v : Value} {xs : List Value} (h : w.ownsRow B e sz v n xs) (hg : w.grownBy w' row) (hne : ∀ g, v.ownBlock = some g → row ≠ some g) : w'.ownsRow B e sz v n xs := by
  obtain ⟨hl, h0 | ⟨g, cap, cur, rfl, hbg, hh, r⟩⟩ := h
  · exact ⟨hl, .inl h0⟩
  · have hgl : g < w.heap.size := (Array.getElem?_eq_some_iff.mp hh).1
    exact ⟨hl, .inr ⟨g, cap, cur, rfl, hbg, by rw [hg.block g hgl (fun e => hne g rfl e.symm)]; exact hh, r⟩⟩
end Go.Proofs.Ytecaeolgheefmaa

/- Texts put in their places, one by one, are the texts sorted and each kept once. -/
namespace Go.Proofs.Ytecaeolgheefmaa
/-- the model's order of texts is that of their bytes -/
theorem less_iff : ∀ (x y : List UInt8), Op.bytesLess x y = true ↔ x < y
  | [], [] => by simp [Op.bytesLess]
  | _ :: _, [] => by simp [Op.bytesLess]
  | [], _ :: _ => by simp [Op.bytesLess]
  | a :: x, b :: y => by
    rw [Op.bytesLess, List.cons_lt_cons_iff, Bool.or_eq_true, Bool.and_eq_true, less_iff x y, decide_eq_true_eq, beq_iff_eq]
theorem lt_tri (x y : List UInt8) : x < y ∨ x = y ∨ y < x := by
  by_cases h : x < y
  · exact .inl h
  · by_cases h2 : y < x
    · exact .inr (.inr h2)
    · exact .inr (.inl (List.le_antisymm (List.not_lt.1 h2) (List.not_lt.1 h)))
/-- rising, none twice -/
def Rising (L : List (List UInt8)) : Prop := L.Pairwise (· < ·)
theorem rising_eq : ∀ {A B : List (List UInt8)}, Rising A → Rising B → (∀ x, x ∈ A ↔ x ∈ B) → A = B
  | [], [], _, _, _ => rfl
  | [], b :: B, _, _, h => absurd ((h b).2 (by simp)) (by simp)
  | a :: A, [], _, _, h => absurd ((h a).1 (by simp)) (by simp)
  | a :: A, b :: B, ha, hb, h => by
    obtain ⟨ha1, ha2⟩ := List.pairwise_cons.1 ha
    obtain ⟨hb1, hb2⟩ := List.pairwise_cons.1 hb
    have e : a = b := by
      rcases lt_tri a b with c | c | c
      · rcases List.mem_cons.1 ((h a).1 (by simp)) with e | e
        · exact e
        · exact absurd (List.lt_trans (hb1 a e) c) (List.lt_irrefl b)
      · exact c
      · rcases List.mem_cons.1 ((h b).2 (by simp)) with e | e
        · exact e.symm
        · exact absurd (List.lt_trans (ha1 b e) c) (List.lt_irrefl a)
    subst e
    congr 1
    refine rising_eq ha2 hb2 fun x => ?_
    have hx := h x
    rw [List.mem_cons, List.mem_cons] at hx
    constructor
    · intro hm
      rcases hx.1 (.inr hm) with e | e
      · subst e; exact absurd (ha1 x hm) (List.lt_irrefl x)
      · exact e
    · intro hm
      rcases hx.2 (.inr hm) with e | e
      · subst e; exact absurd (hb1 x hm) (List.lt_irrefl x)
      · exact e
/-- a text put among others, in its place -/
def putT : List (List UInt8) → List UInt8 → List (List UInt8)
  | [], t => [t]
  | x :: l, t => if x < t then x :: putT l t else if x = t then x :: l else t :: x :: l
theorem putT_mem (t x : List UInt8) : ∀ L : List (List UInt8), x ∈ putT L t ↔ x ∈ L ∨ x = t
  | [] => by simp [putT]
  | y :: l => by
    rw [putT]
    split
    · rw [List.mem_cons, putT_mem t x l, List.mem_cons]
      constructor
      · rintro (h | h | h) <;> simp [h]
      · rintro ((h | h) | h) <;> simp [h]
    · split
      · rename_i e; subst e; simp
        intro h; exact .inl h
      · simp only [List.mem_cons]
        constructor
        · rintro (h | h) <;> simp [h]
        · rintro (h | h) <;> simp [h]
theorem putT_rising (t : List UInt8) : ∀ {L : List (List UInt8)}, Rising L → Rising (putT L t)
  | [], _ => by simp [putT, Rising]
  | y :: l, h => by
    obtain ⟨h1, h2⟩ := List.pairwise_cons.1 h
    rw [putT]
    split
    · rename_i hlt
      refine List.pairwise_cons.2 ⟨fun z hz => ?_, putT_rising t h2⟩
      rcases (putT_mem t z l).1 hz with e | e
      · exact h1 z e
      · rw [e]; exact hlt
    · rename_i hlt
      split
      · exact h
      · rename_i hne
        have hty : t < y := by
          rcases lt_tri t y with c | c | c
          · exact c
          · exact absurd c.symm hne
          · exact absurd c hlt
        refine List.pairwise_cons.2 ⟨fun z hz => ?_, h⟩
        rcases List.mem_cons.1 hz with e | e
        · rw [e]; exact hty
        · exact List.lt_trans hty (h1 z e)
theorem puts_rising : ∀ (K : List (List UInt8)) {L : List (List UInt8)}, Rising L → Rising (K.foldl putT L)
  | [], _, h => h
  | t :: K, _, h => puts_rising K (putT_rising t h)
theorem puts_mem (x : List UInt8) : ∀ (K L : List (List UInt8)), x ∈ K.foldl putT L ↔ x ∈ L ∨ x ∈ K
  | [], L => by simp
  | t :: K, L => by
    rw [List.foldl_cons, puts_mem x K, putT_mem, List.mem_cons]
    constructor
    · rintro ((h | h) | h) <;> simp [h]
    · rintro (h | h | h) <;> simp [h]
/-- where a text is put, and how -/
theorem putT_at (t : List UInt8) : ∀ (L : List (List UInt8)) (k : Nat), k ≤ L.length → (∀ j (h : j < L.length), j < k → L[j] < t) → (∀ h : k < L.length, ¬ L[k] < t) →
    putT L t = if ∃ h : k < L.length, L[k] = t then L else L.take k ++ t :: L.drop k
  | [], k, hk, _, _ => by
    obtain rfl : k = 0 := by simpa using hk
    rw [if_neg (by rintro ⟨h, _⟩; exact absurd h (by simp))]
    rfl
  | x :: l, 0, hk, _, h2 => by
    have hx : ¬ x < t := h2 (by simp)
    rw [putT, if_neg hx]
    by_cases e : x = t
    · rw [if_pos e, if_pos ⟨by simp, e⟩]
    · rw [if_neg e, if_neg (by rintro ⟨_, h⟩; exact e h)]; rfl
  | x :: l, k + 1, hk, h1, h2 => by
    have hx : x < t := h1 0 (by simp) (by omega)
    rw [putT, if_pos hx, putT_at t l k (by simpa using hk) (fun j h hj => h1 (j + 1) (by simpa using h) (by omega)) (fun h => h2 (by simpa using h))]
    by_cases e : ∃ h : k < l.length, l[k] = t
    · rw [if_pos e, if_pos (by obtain ⟨h, e⟩ := e; exact ⟨by simpa using h, e⟩)]
    · rw [if_neg e, if_neg (by rintro ⟨h, e2⟩; exact e ⟨by simpa using h, e2⟩)]; rfl
theorem le_lt {a b c : List UInt8} (h : ¬ b < a) (h2 : b < c) : a < c := by
  rcases lt_tri a b with e | e | e
  · exact List.lt_trans e h2
  · rw [e]; exact h2
  · exact absurd e h
/-- what stays of rising texts is rising, none twice, and they are the same -/
theorem compact_upto (d : Array (List UInt8)) (hd : ∀ j, j + 1 < d.size → ¬ d[j + 1]! < d[j]!) : ∀ m, m ≤ d.size →
    Rising (Lib.compactUpTo d m) ∧ (∀ x, x ∈ Lib.compactUpTo d m ↔ ∃ j, j < m ∧ d[j]! = x) ∧ (∀ x, x ∈ Lib.compactUpTo d m → ¬ d[m - 1]! < x)
  | 0, _ => by simp [Lib.compactUpTo, Rising]
  | m + 1, hm => by
    obtain ⟨h1, h2, h3⟩ := compact_upto d hd m (by omega)
    rw [Lib.compactUpTo_succ]
    by_cases hk : Lib.keeps d m = true
    · rw [if_pos hk]
      have hlt : ∀ x, x ∈ Lib.compactUpTo d m → x < d[m]! := by
        intro x hx
        obtain ⟨j, hj, -⟩ := (h2 x).1 hx
        have hm0 : ¬ m = 0 := by omega
        have hne : d[m]! ≠ d[m - 1]! := by
          have := hk
          unfold Lib.keeps at this
          rw [decide_eq_true_eq] at this
          exact this.resolve_left hm0
        have hle := hd (m - 1) (by omega)
        rw [show m - 1 + 1 = m by omega] at hle
        refine le_lt (h3 x hx) ?_
        rcases lt_tri d[m - 1]! d[m]! with e | e | e
        · exact e
        · exact absurd e.symm hne
        · exact absurd e hle
      refine ⟨?_, fun x => ?_, fun x hx => ?_⟩
      · unfold Rising
        rw [List.pairwise_append]
        refine ⟨h1, by simp, fun a ha b hb => ?_⟩
        rw [List.mem_singleton] at hb
        rw [hb]; exact hlt a ha
      · rw [List.mem_append, h2, List.mem_singleton]
        constructor
        · rintro (⟨j, hj, e⟩ | e)
          · exact ⟨j, by omega, e⟩
          · exact ⟨m, by omega, e.symm⟩
        · rintro ⟨j, hj, e⟩
          by_cases hjm : j = m
          · subst hjm; exact .inr e.symm
          · exact .inl ⟨j, by omega, e⟩
      · rw [List.mem_append, List.mem_singleton] at hx
        rw [Nat.add_sub_cancel]
        rcases hx with hx | hx
        · exact fun h => List.lt_irrefl x (List.lt_trans (hlt x hx) h)
        · rw [hx]; exact List.lt_irrefl _
    · rw [if_neg hk, List.append_nil]
      have hm0 : ¬ m = 0 := fun e => hk (by subst e; simp [Lib.keeps])
      have he : d[m]! = d[m - 1]! := by
        by_cases e : d[m]! = d[m - 1]!
        · exact e
        · exact absurd (Lib.keeps_pos e) hk
      refine ⟨h1, fun x => ?_, fun x hx => ?_⟩
      · rw [h2]
        constructor
        · rintro ⟨j, hj, e⟩; exact ⟨j, by omega, e⟩
        · rintro ⟨j, hj, e⟩
          by_cases hjm : j = m
          · subst hjm; exact ⟨j - 1, by omega, by rw [← e, he]⟩
          · exact ⟨j, by omega, e⟩
      · rw [Nat.add_sub_cancel, he]; exact h3 x hx
theorem compact_sorted (zs : List (List UInt8)) (h : zs.Pairwise (fun a b => ¬ b < a)) : Rising (Lib.compact zs) ∧ ∀ x, x ∈ Lib.compact zs ↔ x ∈ zs := by
  have hd : ∀ j, j + 1 < zs.toArray.size → ¬ zs.toArray[j + 1]! < zs.toArray[j]! := by
    intro j hj
    have hj2 : j + 1 < zs.length := by simpa using hj
    have := List.pairwise_iff_getElem.1 h j (j + 1) (by omega) hj2 (by omega)
    simpa [getElem!_pos, hj2, show j < zs.length by omega] using this
  obtain ⟨h1, h2, _⟩ := compact_upto zs.toArray hd zs.length (by simp)
  refine ⟨h1, fun x => ?_⟩
  unfold Lib.compact
  rw [h2]
  constructor
  · rintro ⟨j, hj, e⟩
    rw [← e]
    simp [getElem!_pos, hj]
  · intro hx
    obtain ⟨j, hj, e⟩ := List.getElem_of_mem hx
    exact ⟨j, hj, by simp [getElem!_pos, hj, e]⟩
/-- texts sorted and each kept once are those put one by one -/
theorem sorted_puts (K : List (List UInt8)) : Lib.compact (K.mergeSort fun x y => decide (x ≤ y)) = K.foldl putT [] := by
  have hp : (K.mergeSort fun x y => decide (x ≤ y)).Pairwise (fun a b => ¬ b < a) := by
    have := List.pairwise_mergeSort (le := fun x y : List UInt8 => decide (x ≤ y)) (fun a b c h1 h2 => by
      rw [decide_eq_true_eq] at *; exact List.le_trans h1 h2) (fun a b => by
      rw [Bool.or_eq_true, decide_eq_true_eq, decide_eq_true_eq]; exact List.le_total a b) K
    refine this.imp ?_
    intro a b h
    rw [decide_eq_true_eq] at h
    exact List.not_lt.2 h
  obtain ⟨h1, h2⟩ := compact_sorted _ hp
  refine rising_eq h1 (puts_rising K (by simp [Rising])) fun x => ?_
  rw [h2, puts_mem, (List.mergeSort_perm K _).mem_iff]
  simp
end Go.Proofs.Ytecaeolgheefmaa

/- The order of texts as a number, and of pairs of texts. -/
namespace Go.Proofs.Ytecaeolgheefmaa
theorem cmp_lt : ∀ x y : List UInt8, Lib.compareBytes x y = (if x < y then -1 else if x = y then 0 else 1)
  | [], [] => by simp [Lib.compareBytes]
  | _ :: _, [] => by simp [Lib.compareBytes]
  | [], _ :: _ => by simp [Lib.compareBytes]
  | a :: x, b :: y => by
    rw [Lib.compareBytes, cmp_lt x y]
    by_cases h : a < b
    · rw [if_pos h, if_pos (by rw [List.cons_lt_cons_iff]; exact .inl h)]
    · rw [if_neg h]
      by_cases h2 : b < a
      · rw [if_pos h2, if_neg (by rw [List.cons_lt_cons_iff]; rintro (e | ⟨e, -⟩); exact h e; subst e; exact h h2), if_neg (by rintro e; injection e with e; subst e; exact h h2)]
      · rw [if_neg h2]
        obtain rfl : a = b := by
          rcases UInt8.lt_or_eq_of_le (UInt8.not_lt.1 h2) with e | e
          · exact absurd e h
          · exact e
        have e1 : (a :: x < a :: y) ↔ x < y := by rw [List.cons_lt_cons_iff]; simp
        have e2 : (a :: x = a :: y) ↔ x = y := by simp
        simp only [e1, e2]
/-- a pair of texts stands ahead of another -/
def ltK (a b : List UInt8 × List UInt8) : Prop := a.1 < b.1 ∨ a.1 = b.1 ∧ a.2 < b.2
theorem ltK_irrefl (a : List UInt8 × List UInt8) : ¬ ltK a a := by
  rintro (h | ⟨-, h⟩)
  · exact List.lt_irrefl _ h
  · exact List.lt_irrefl _ h
theorem ltK_trans {a b c : List UInt8 × List UInt8} (h1 : ltK a b) (h2 : ltK b c) : ltK a c := by
  rcases h1 with h1 | ⟨e1, h1⟩ <;> rcases h2 with h2 | ⟨e2, h2⟩
  · exact .inl (List.lt_trans h1 h2)
  · exact .inl (e2 ▸ h1)
  · exact .inl (e1 ▸ h2)
  · exact .inr ⟨e1.trans e2, List.lt_trans h1 h2⟩
theorem ltK_tri (a b : List UInt8 × List UInt8) : ltK a b ∨ a = b ∨ ltK b a := by
  rcases lt_tri a.1 b.1 with h | h | h
  · exact .inl (.inl h)
  · rcases lt_tri a.2 b.2 with h2 | h2 | h2
    · exact .inl (.inr ⟨h, h2⟩)
    · exact .inr (.inl (Prod.ext h h2))
    · exact .inr (.inr (.inr ⟨h.symm, h2⟩))
  · exact .inr (.inr (.inl h))
def cmpK (a b : List UInt8 × List UInt8) : Int := if Lib.compareBytes a.1 b.1 = 0 then Lib.compareBytes a.2 b.2 else Lib.compareBytes a.1 b.1
theorem cmpK_eq (a b : List UInt8 × List UInt8) : (ltK a b ∧ cmpK a b = -1) ∨ (a = b ∧ cmpK a b = 0) ∨ (ltK b a ∧ cmpK a b = 1) := by
  unfold cmpK
  rw [cmp_lt, cmp_lt]
  rcases lt_tri a.1 b.1 with h | h | h
  · exact .inl ⟨.inl h, by simp [h]⟩
  · rcases lt_tri a.2 b.2 with h2 | h2 | h2
    · exact .inl ⟨.inr ⟨h, h2⟩, by simp [h, h2, List.lt_irrefl]⟩
    · exact .inr (.inl ⟨Prod.ext h h2, by simp [h, h2, List.lt_irrefl]⟩)
    · have n2 : ¬ a.2 < b.2 := fun e => List.lt_irrefl _ (List.lt_trans e h2)
      have n3 : ¬ a.2 = b.2 := fun e => by rw [e] at h2; exact List.lt_irrefl _ h2
      exact .inr (.inr ⟨.inr ⟨h.symm, h2⟩, by simp [h, n2, n3, List.lt_irrefl]⟩)
  · have n2 : ¬ a.1 < b.1 := fun e => List.lt_irrefl _ (List.lt_trans e h)
    have n3 : ¬ a.1 = b.1 := fun e => by rw [e] at h; exact List.lt_irrefl _ h
    exact .inr (.inr ⟨.inl h, by simp [n2, n3]⟩)
end Go.Proofs.Ytecaeolgheefmaa

/- Grants as plain functions: what is right, which stands ahead, who is live, what goes and what is put. -/
namespace Go.Proofs.Ytecaeolgheefmaa
open Go.RowKit

def siteG (t : ByteArray) : Bool := decide (1 ≤ t.size) && decide (t.size ≤ 120)
def timeG (n : Int) : Bool := decide (0 ≤ n) && decide (n ≤ 1000000)
def grB (g : Gr) : Bool := siteG g.tp && siteG g.si && timeG g.un
def keyG (g : Gr) : List UInt8 × List UInt8 := (g.tp.data.toList, g.si.data.toList)
/-- one stands ahead of another -/
def grLess (a b : Gr) : Bool := Op.bytesLess a.tp.toList b.tp.toList || ((a.tp.toList == b.tp.toList) && Op.bytesLess a.si.toList b.si.toList)
def ordG (a b : Gr) : Int := if Lib.compareBytes a.tp.data.toList b.tp.data.toList = 0 then Lib.compareBytes a.si.data.toList b.si.data.toList else Lib.compareBytes a.tp.data.toList b.tp.data.toList
theorem grLess_iff (a b : Gr) : grLess a b = true ↔ ltK (keyG a) (keyG b) := by
  unfold grLess ltK keyG
  simp only [Lib.toList_data, Bool.or_eq_true, Bool.and_eq_true, beq_iff_eq, less_iff]
theorem grLess_no (a b : Gr) : grLess a b = false ↔ ¬ ltK (keyG a) (keyG b) := by rw [← grLess_iff, Bool.not_eq_true]
theorem ordG_eq (a b : Gr) : ordG a b = cmpK (keyG a) (keyG b) := rfl
theorem ordG_neg (a b : Gr) : decide (0 ≤ ordG a b) = !(grLess a b) := by
  rw [ordG_eq]
  rcases cmpK_eq (keyG a) (keyG b) with ⟨h, e⟩ | ⟨h, e⟩ | ⟨h, e⟩
  · rw [e, (grLess_iff a b).2 h]; rfl
  · rw [e, (grLess_no a b).2 (by rw [h]; exact ltK_irrefl _)]; rfl
  · rw [e, (grLess_no a b).2 (fun h2 => ltK_irrefl _ (ltK_trans h h2))]; rfl
theorem ordG_pos (a b : Gr) : decide (0 < ordG a b) = grLess b a := by
  rw [ordG_eq]
  rcases cmpK_eq (keyG a) (keyG b) with ⟨h, e⟩ | ⟨h, e⟩ | ⟨h, e⟩
  · rw [e, (grLess_no b a).2 (fun h2 => ltK_irrefl _ (ltK_trans h h2))]; rfl
  · rw [e, (grLess_no b a).2 (by rw [h]; exact ltK_irrefl _)]; rfl
  · rw [e, (grLess_iff b a).2 h]; rfl
theorem grLess_trans {a b c : Gr} (h1 : grLess a b = true) (h2 : grLess b c = true) : grLess a c = true := by
  rw [grLess_iff] at *; exact ltK_trans h1 h2
theorem grLess_asymm {a b : Gr} (h : grLess a b = true) : grLess b a = false := by
  rw [grLess_no]; rw [grLess_iff] at h; exact fun h2 => ltK_irrefl _ (ltK_trans h h2)
def riseG (L : List Gr) (i : Nat) : Bool := decide (i = 0) || grLess (atG L (i - 1)) (atG L i)
def okG (L : List Gr) (i : Nat) : Bool := grB (atG L i) && riseG L i
def allG (L : List Gr) : Bool := decide (∀ i, i < L.length → okG L i = true)
def grantsB (L : List Gr) : Bool := decide (L.length ≤ 8) && allG L
theorem grantsB_long {L : List Gr} (h : 8 < L.length) : grantsB L = false := by unfold grantsB; rw [decide_eq_false (by omega)]; rfl
theorem allG_at {L : List Gr} (i : Nat) (h : i < L.length) (hi : okG L i = false) : allG L = false := by
  unfold allG
  exact decide_eq_false (fun h' => by rw [h' i h] at hi; cases hi)
theorem grantsB_at {L : List Gr} (i : Nat) (h : i < L.length) (hi : okG L i = false) : grantsB L = false := by
  unfold grantsB
  rw [allG_at i h hi, Bool.and_false]
theorem allG_all {L : List Gr} (ha : ∀ i, i < L.length → okG L i = true) : allG L = true := decide_eq_true ha
theorem grantsB_all {L : List Gr} (ha : ∀ i, i < L.length → okG L i = true) : grantsB L = decide (L.length ≤ 8) := by
  unfold grantsB; rw [allG_all ha, Bool.and_true]
theorem grantsB_parts {L : List Gr} (h : grantsB L = true) : L.length ≤ 8 ∧ ∀ i, i < L.length → okG L i = true := by
  unfold grantsB allG at h
  simp only [Bool.and_eq_true, decide_eq_true_eq] at h
  exact h
theorem okG_no {L : List Gr} {i : Nat} (h : grB (atG L i) = false) : okG L i = false := by unfold okG; rw [h]; rfl
theorem okG_flat {L : List Gr} {m : Nat} (h : grLess (atG L m) (atG L (m + 1)) = false) : okG L (m + 1) = false := by
  unfold okG riseG; rw [Nat.add_sub_cancel, h, decide_eq_false (by omega)]; simp
theorem okG_first {L : List Gr} (h : grB (atG L 0) = true) : okG L 0 = true := by unfold okG riseG; rw [h]; rfl
theorem okG_next {L : List Gr} {m : Nat} (h : grB (atG L (m + 1)) = true) (h2 : grLess (atG L m) (atG L (m + 1)) = true) : okG L (m + 1) = true := by
  unfold okG riseG; rw [h, Nat.add_sub_cancel, h2, Bool.or_true]; rfl
theorem okG_succ {L : List Gr} {k : Nat} (h : ∀ i, i < k → okG L i = true) (hk : okG L k = true) : ∀ i, i < k + 1 → okG L i = true := by
  intro i hi
  by_cases e : i = k
  · subst e; exact hk
  · exact h i (by omega)
theorem siteG_size {t : ByteArray} (h : siteG t = true) : 1 ≤ t.size ∧ t.size ≤ 120 := by
  unfold siteG at h
  simp only [Bool.and_eq_true, decide_eq_true_eq] at h; exact h
theorem grB_parts {g : Gr} (h : grB g = true) : siteG g.tp = true ∧ siteG g.si = true ∧ timeG g.un = true := by
  unfold grB at h
  simp only [Bool.and_eq_true] at h; exact ⟨h.1.1, h.1.2, h.2⟩
theorem okG_right {L : List Gr} {i : Nat} (h : okG L i = true) : grB (atG L i) = true := by unfold okG at h; rw [Bool.and_eq_true] at h; exact h.1
theorem okG_rise {L : List Gr} {m : Nat} (h : okG L (m + 1) = true) : grLess (atG L m) (atG L (m + 1)) = true := by
  unfold okG riseG at h
  rw [Bool.and_eq_true, Nat.add_sub_cancel, decide_eq_false (by omega), Bool.false_or] at h
  exact h.2
/-- rising -/
def RiseG (L : List Gr) : Prop := L.Pairwise (fun a b => grLess a b = true)
theorem atG_get {L : List Gr} {j : Nat} (h : j < L.length) : atG L j = L[j] := by simp [atG, h]
theorem okG_less {L : List Gr} (h : ∀ i, i < L.length → okG L i = true) : ∀ (d i : Nat), i + d + 1 < L.length → grLess (atG L i) (atG L (i + d + 1)) = true
  | 0, i, hi => okG_rise (h (i + 1) hi)
  | d + 1, i, hi => grLess_trans (okG_less h d i (by omega)) (okG_rise (h (i + (d + 1) + 1) hi))
theorem grants_rise {L : List Gr} (h : grantsB L = true) : RiseG L := by
  have h2 := (grantsB_parts h).2
  refine List.pairwise_iff_getElem.2 fun i j hi hj hij => ?_
  have := okG_less h2 (j - i - 1) i (by omega)
  rw [show i + (j - i - 1) + 1 = j by omega] at this
  rwa [atG_get hi, atG_get hj] at this
theorem rise_filterG {L : List Gr} (h : RiseG L) (p : Gr → Bool) : RiseG (L.filter p) := List.Pairwise.filter p h
theorem riseG_at {L : List Gr} (hr : RiseG L) {i j : Nat} (hij : i < j) (hj : j < L.length) : grLess (atG L i) (atG L j) = true := by
  rw [atG_get (by omega), atG_get hj]
  exact (List.pairwise_iff_getElem.1 hr) i j (by omega) hj hij
/-- the one of both -/
def isG (tp si : ByteArray) (g : Gr) : Bool := (g.tp.toList == tp.toList) && (g.si.toList == si.toList)
theorem isG_iff (tp si : ByteArray) (g : Gr) : isG tp si g = true ↔ keyG g = (tp.data.toList, si.data.toList) := by
  unfold isG keyG
  simp only [Lib.toList_data, Bool.and_eq_true, beq_iff_eq, Prod.mk.injEq]
def liveG (now : Int) (g : Gr) : Bool := decide (now < g.un)
/-- all that is asked with is right -/
def mayG (L : List Gr) (tp si : ByteArray) (now : Int) : Bool := grantsB L && siteG tp && siteG si && timeG now
theorem mayG_parts {L : List Gr} {tp si : ByteArray} {now : Int} (h : mayG L tp si now = true) : grantsB L = true ∧ siteG tp = true ∧ siteG si = true ∧ timeG now = true := by
  unfold mayG at h
  simp only [Bool.and_eq_true] at h
  exact ⟨h.1.1.1, h.1.1.2, h.1.2, h.2⟩
def hereG (L : List Gr) (tp si : ByteArray) (now : Int) : Bool := L.any (fun g => isG tp si g && liveG now g)
def liveB8 (L : List Gr) (tp si : ByteArray) (now : Int) : Bool := mayG L tp si now && hereG L tp si now
theorem hereG_at {L : List Gr} {tp si : ByteArray} {now : Int} {k : Nat} (hr : RiseG L) (hk : k < L.length) (h : isG tp si (atG L k) = true) : hereG L tp si now = liveG now (atG L k) := by
  cases hl : liveG now (atG L k) with
  | true =>
    refine List.any_eq_true.2 ⟨atG L k, by rw [atG_get hk]; exact List.getElem_mem hk, by rw [h, hl]; rfl⟩
  | false =>
    refine List.any_eq_false.2 fun x hx => ?_
    obtain ⟨j, hj, rfl⟩ := List.mem_iff_getElem.1 hx
    intro h2
    rw [Bool.and_eq_true] at h2
    rw [← atG_get hj] at h2
    have e : keyG (atG L j) = keyG (atG L k) := by rw [(isG_iff _ _ _).1 h2.1, (isG_iff _ _ _).1 h]
    by_cases e1 : j = k
    · subst e1; rw [hl] at h2; exact absurd h2.2 (by decide)
    · rcases Nat.lt_or_gt_of_ne e1 with e2 | e2
      · have := (grLess_iff _ _).1 (riseG_at hr e2 hk)
        rw [e] at this; exact ltK_irrefl _ this
      · have := (grLess_iff _ _).1 (riseG_at hr e2 hj)
        rw [e] at this; exact ltK_irrefl _ this
theorem hereG_none {L : List Gr} {tp si : ByteArray} {now : Int} (h : ∀ j, j < L.length → isG tp si (atG L j) = false) : hereG L tp si now = false := by
  refine List.any_eq_false.2 fun x hx => ?_
  obtain ⟨j, hj, rfl⟩ := List.mem_iff_getElem.1 hx
  have := h j hj
  rw [atG_get hj] at this
  rw [this]; simp
/-- those of the first k that stay -/
def keepG (p : Gr → Bool) (L : List Gr) (k : Nat) : List Gr := (L.take k).filter p
theorem keepG_zero (p : Gr → Bool) (L : List Gr) : keepG p L 0 = [] := rfl
theorem keepG_yes {p : Gr → Bool} {L : List Gr} {k : Nat} (hk : k < L.length) (h : p (atG L k) = true) : keepG p L (k + 1) = keepG p L k ++ [atG L k] := by
  have e : L.take (k + 1) = L.take k ++ [atG L k] := by
    rw [List.take_succ_eq_append_getElem hk, atG_get hk]
  unfold keepG
  rw [e, List.filter_append]
  simp [h]
theorem keepG_no {p : Gr → Bool} {L : List Gr} {k : Nat} (hk : k < L.length) (h : p (atG L k) = false) : keepG p L (k + 1) = keepG p L k := by
  have e : L.take (k + 1) = L.take k ++ [atG L k] := by
    rw [List.take_succ_eq_append_getElem hk, atG_get hk]
  unfold keepG
  rw [e, List.filter_append]
  simp [h]
theorem keepG_all (p : Gr → Bool) (L : List Gr) : keepG p L L.length = L.filter p := by unfold keepG; rw [List.take_length]
theorem keepG_len (p : Gr → Bool) (L : List Gr) (k : Nat) : (keepG p L k).length ≤ k := by
  unfold keepG
  refine Nat.le_trans (List.length_filter_le _ _) ?_
  rw [List.length_take]; omega
/-- what is left when the one of both goes, or when the old ones go -/
def dropL (L : List Gr) (tp si : ByteArray) : List Gr := if (grantsB L && siteG tp && siteG si) = true then L.filter (fun g => !(isG tp si g)) else []
def oldG (L : List Gr) (now : Int) : List Gr := if (grantsB L && timeG now) = true then L.filter (liveG now) else []
theorem filter_len8 {L : List Gr} (p : Gr → Bool) (h : grantsB L = true) : (L.filter p).length ≤ 8 := Nat.le_trans (List.length_filter_le _ _) (grantsB_parts h).1
theorem dropL_len (L : List Gr) (tp si : ByteArray) : (dropL L tp si).length ≤ 8 := by
  unfold dropL
  split
  · rename_i h
    simp only [Bool.and_eq_true] at h
    exact filter_len8 _ h.1.1
  · exact Nat.zero_le _
theorem oldG_len (L : List Gr) (now : Int) : (oldG L now).length ≤ 8 := by
  unfold oldG
  split
  · rename_i h
    rw [Bool.and_eq_true] at h
    exact filter_len8 _ h.1
  · exact Nat.zero_le _
/-- an answer: grants, is the touch used, a code -/
structure GO where
  ar : List Gr
  us : Bool
  co : Int
def noG (c : Int) : GO := ⟨[], false, c⟩
/-- those that stay when one of both is put -/
def restG (L : List Gr) (tp si : ByteArray) (now : Int) : List Gr := (L.filter (liveG now)).filter (fun g => !(isG tp si g))
def untilG (now : Int) : Int := if now + 30 ≤ 1000000 then now + 30 else 1000000
def newG (tp si : ByteArray) (now : Int) : Gr := ⟨tp, si, untilG now⟩
def insG (L : List Gr) (x : Gr) : List Gr := L.filter (fun e => grLess e x) ++ x :: L.filter (fun e => grLess x e)
/-- putting into what is right -/
def putR (L : List Gr) (tp si : ByteArray) (now : Int) : GO := if (restG L tp si now).length < 8 then ⟨insG (restG L tp si now) (newG tp si now), false, 0⟩ else noG 9
def fitsG (L : List Gr) (tp si : ByteArray) : Bool := decide (L.length ≤ 400) && decide (tp.size ≤ 8000) && decide (si.size ≤ 8000)
def beginG (L : List Gr) (tp si : ByteArray) (now : Int) : Int := if fitsG L tp si = true then (if mayG L tp si now = true then 0 else 1) else 2
theorem beginG_ok {L : List Gr} {tp si : ByteArray} {now : Int} (h : beginG L tp si now = 0) : mayG L tp si now = true := by
  unfold beginG at h
  split at h
  · split at h
    · assumption
    · cases h
  · cases h
def putG (L : List Gr) (tp si : ByteArray) (now : Int) : GO := if beginG L tp si now = 0 then putR L tp si now else noG (beginG L tp si now)
theorem may_fits {L : List Gr} {tp si : ByteArray} {now : Int} (h : mayG L tp si now = true) : fitsG L tp si = true := by
  obtain ⟨h1, h2, h3, -⟩ := mayG_parts h
  have a := (grantsB_parts h1).1
  have b := (siteG_size h2).2
  have c := (siteG_size h3).2
  unfold fitsG
  rw [decide_eq_true (by omega), decide_eq_true (by omega), decide_eq_true (by omega)]; rfl
theorem begin_may {L : List Gr} {tp si : ByteArray} {now : Int} (h : mayG L tp si now = true) : beginG L tp si now = 0 := by
  unfold beginG; rw [if_pos (may_fits h), if_pos h]
/-- where one is put: those ahead, it, those behind -/
theorem ins_cut {L : List Gr} {x : Gr} {k : Nat} (hk : k ≤ L.length) (hb : ∀ j, j < k → grLess (atG L j) x = true) (he : ∀ j, k ≤ j → j < L.length → grLess x (atG L j) = true) : insG L x = L.take k ++ x :: L.drop k := by
  have e := (List.take_append_drop k L).symm
  have m1 : ∀ y, y ∈ L.take k → grLess y x = true := fun y hy => by
    obtain ⟨j, hj, rfl⟩ := List.mem_iff_getElem.1 hy
    have h1 : j < k := by rw [List.length_take] at hj; omega
    have := hb j h1
    rw [atG_get (by omega)] at this
    rw [List.getElem_take]; exact this
  have m2 : ∀ y, y ∈ L.drop k → grLess x y = true := fun y hy => by
    obtain ⟨j, hj, rfl⟩ := List.mem_iff_getElem.1 hy
    have h2 : k + j < L.length := by rw [List.length_drop] at hj; omega
    have := he (k + j) (by omega) h2
    rw [atG_get h2] at this
    rw [List.getElem_drop]; exact this
  have f1 : L.filter (fun e => grLess e x) = L.take k := by
    refine (congrArg (List.filter (fun e => grLess e x)) e).trans ?_
    rw [List.filter_append, List.filter_eq_self.2 m1, List.filter_eq_nil_iff.2 (fun y hy => by rw [grLess_asymm (m2 y hy)]; decide), List.append_nil]
  have f2 : L.filter (fun e => grLess x e) = L.drop k := by
    refine (congrArg (List.filter (fun e => grLess x e)) e).trans ?_
    rw [List.filter_append, List.filter_eq_self.2 m2, List.filter_eq_nil_iff.2 (fun y hy => by rw [grLess_asymm (m1 y hy)]; decide), List.nil_append]
  unfold insG
  rw [f1, f2]
/-- among those that stay none is of the place of what is put -/
theorem rest_apart {L : List Gr} {tp si : ByteArray} {now : Int} {un : Int} : ∀ y, y ∈ restG L tp si now → grLess y ⟨tp, si, un⟩ = true ∨ grLess ⟨tp, si, un⟩ y = true := by
  intro y hy
  have h := (List.mem_filter.1 hy).2
  rcases ltK_tri (keyG y) (keyG ⟨tp, si, un⟩) with h1 | h1 | h1
  · exact .inl ((grLess_iff _ _).2 h1)
  · rw [(isG_iff tp si y).2 h1] at h; cases h
  · exact .inr ((grLess_iff _ _).2 h1)
theorem restG_len (L : List Gr) (tp si : ByteArray) (now : Int) : (restG L tp si now).length ≤ L.length := Nat.le_trans (List.length_filter_le _ _) (List.length_filter_le _ _)
theorem insG_len (L : List Gr) (x : Gr) : (insG L x).length ≤ L.length + 1 := by
  unfold insG
  rw [List.length_append, List.length_cons]
  have : ∀ (M : List Gr), (M.filter (fun e => grLess e x)).length + (M.filter (fun e => grLess x e)).length ≤ M.length := by
    intro M
    induction M with
    | nil => exact Nat.le_refl _
    | cons a M ih =>
      rw [List.filter_cons, List.filter_cons]
      by_cases h1 : grLess a x = true
      · rw [if_pos h1, if_neg (by rw [grLess_asymm h1]; decide), List.length_cons, List.length_cons]; omega
      · rw [if_neg h1]
        split
        · rw [List.length_cons, List.length_cons]; omega
        · rw [List.length_cons]; omega
  have := this L
  omega
theorem putR_len (L : List Gr) (tp si : ByteArray) (now : Int) : (putR L tp si now).ar.length ≤ 8 := by
  unfold putR
  split
  · have := insG_len (restG L tp si now) (newG tp si now)
    show (insG _ _).length ≤ 8
    omega
  · exact Nat.zero_le _
theorem putG_len (L : List Gr) (tp si : ByteArray) (now : Int) : (putG L tp si now).ar.length ≤ 8 := by
  unfold putG
  split
  · exact putR_len L tp si now
  · exact Nat.zero_le _
/-- the texts of grants are no longer than what is asked -/
def szG (L : List Gr) : Prop := ∀ i, i < L.length → (atG L i).tp.size + (atG L i).si.size ≤ 1048576
end Go.Proofs.Ytecaeolgheefmaa
