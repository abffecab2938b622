/- 21 of this claim's texts, one behind the other. -/
import Derived.Test.YtmlacbjlafdenahDoorRows
import Derived.Below
import Derived.WalkKit
import Derived.WalkSpells
import Derived.WalkLawsBesides
import Derived.Laws.CopyOwn
import Derived.Lib.BufferWrite
import Derived.Laws.IdiomStrings
import Derived.Deep.RegionHeld3
import Derived.Lib.Split
import Derived.Lib.SlicesCompact
import Derived.Lib.SplitLaws
import Derived.Test.YtmlacbjlafdenahDoorShelfSort
import Derived.Shelf.Sort.Plain
import Derived.Sort.OwnSorted
import Derived.Lib.OwnBridge
import Derived.Lib.IndexAny
/- Small facts that the walks close with: equal values make equal endings; what lies below a block is as it was. -/
namespace Go.Proofs.YtmlacbjlafdenahDoor
open Go.RowKit
theorem ret_bool {a b : Bool} (h : a = b) : Ending.returned (.bool a) = .returned (.bool b) := by rw [h]
theorem val_int {k : IntKind} {a b : Int} (h : a = b) : Value.int k a = .int k b := by rw [h]
theorem ret_int {k : IntKind} {a b : Int} (h : a = b) : Ending.returned (.int k a) = .returned (.int k b) := by rw [h]
theorem ret_text {a b : ByteArray} (h : a = b) : Ending.returned (.string a) = .returned (.string b) := by rw [h]
theorem bcell {W w1 : World} (hb : Below W.heap.size W w1) : (∀ b o, b < W.heap.size → w1.cell? ⟨b, o, none⟩ = W.cell? ⟨b, o, none⟩) ∧ (∀ b o, b < W.heap.size → w1.frozen? ⟨b, o, none⟩ = W.frozen? ⟨b, o, none⟩) :=
  ⟨fun b o h => hb.cell (p := ⟨b, o, none⟩) h, fun b o h => hb.frozen (p := ⟨b, o, none⟩) h⟩
theorem own_shape {w : World} {base n : Nat} {e : TypeId} {v : Value} {xs : List Value} (h : w.ownsRow base e 1 v (n + 1) xs) : ∃ g cap, v = .slice (some ⟨g, 0, none⟩) (n + 1) cap := by
  obtain ⟨_, ⟨_, h0⟩ | ⟨g, cap, _, hv, _⟩⟩ := h
  · omega
  · exact ⟨g, cap, hv⟩
end Go.Proofs.YtmlacbjlafdenahDoor

/- Run equations at rows of bytes that a call makes itself: make, copy from a text, string of a row: each stated at whatever program; the world behind is a letter of which the row and Below are known. -/
namespace Go.Proofs.YtmlacbjlafdenahDoor
open Go.RowKit

theorem infoU8 : (Tryd.prog.info? 5).map (fun i => (i.zero, i.size, i.bytes)) = some (some (.int .u8 0), 1, 1) := by kernel_rfl
theorem sizeU8 : (Tryd.prog.info? 5).map (·.size) = some 1 := by kernel_rfl

/-- the block g holds the cells L, none of them frozen -/
def RowAt (w : World) (g : Nat) (t : TypeId) (L : List Value) : Prop := w.heap[g]? = some (.cells L.toArray t (0, 0))

theorem make_row {P : Program} (w : World) (t e : TypeId) (z : Value) (h1 : P.underlying t = some (.slice e))
    (hi : (P.info? e).map (fun i => (i.zero, i.size, i.bytes)) = some (some z, 1, 1)) (L : Int) (n : Nat) (hL : L = (n : Int)) (b2 : n ≤ 281474976710656) :
    ∃ w' Z, Sem.run P (Instr.makeSlice t (.int .i64 L) (.int .i64 L)) w = .ok (.slice (some ⟨w.heap.size, 0, none⟩) n n) w' ∧
      RowAt w' w.heap.size e Z ∧ Z.length = n ∧ w'.heap.size = w.heap.size + 1 ∧ Below w.heap.size w w' := by
  obtain ⟨i, h2, h3, h4, h5⟩ := info_parts hi
  subst hL
  have hrun := run_make (P := P) w t e i z h1 h2 h3 .i64 .i64 n n (by omega) (Int.le_refl _) (by rw [h5]; omega) (by omega)
  simp only [Int.toNat_natCast, h4, Nat.mul_one] at hrun
  refine ⟨_, (madeCells z.cells n).toList, hrun, ?_, by simp [size_madeCells], by simp, (Below.refl _ _).alloc (Nat.le_refl _) _⟩
  unfold RowAt; rw [heap_alloc_new]

theorem copy_text {P : Program} (w : World) (dT sT ty elem : TypeId) (hu : P.underlying dT = some (.slice elem)) (hsz : (P.info? elem).map (·.size) = some 1)
    (dp : Option Addr) (dLen dCap : Nat) (x : ByteArray) (hle : x.size ≤ dLen)
    (g off : Nat) (cur : List Value) (t : TypeId) (hg : RowAt w g t cur) (hpos : 0 < x.size → dp = some ⟨g, off, none⟩)
    (hfit : off + x.size ≤ cur.length) :
    ∃ w', Sem.run P (Builtin.copy_ #[dT, sT] ty #[.slice dp dLen dCap, .string x]) w = .ok (goInt x.size) w' ∧
      RowAt w' g t (splice cur off (Lib.byteCells x.data.toList)) ∧ w'.heap.size = w.heap.size ∧ (∀ B w0, Below B w0 w → B ≤ g → Below B w0 w') := by
  by_cases h0 : x.size = 0
  · have hrun := Lib.run_copy_empty_string (P := P) w dT sT ty elem dp dLen dCap x hu (by rw [Option.isSome_iff_exists]; exact ⟨1, hsz⟩) h0
    have hnil : x.data.toList = [] := List.eq_nil_of_length_eq_zero (by rw [← Lib.size_eq]; exact h0)
    exact ⟨w, by rw [hrun, h0]; rfl, by rw [hnil]; simpa [splice, Lib.byteCells] using hg, rfl, fun _ _ h _ => h⟩
  · obtain rfl := hpos (by omega)
    have hrun := Lib.run_copy_row_string (P := P) w dT sT ty elem g off dLen dCap x cur.toArray t hu hsz hg hle (by simpa using hfit)
    refine ⟨_, hrun, ?_, by simp [World.setRow], fun B w0 hb hBg => below_setRow hb hBg _⟩
    have := setRow_heap w g _ (List.take off cur ++ (Lib.byteCells x.data.toList ++ List.drop (off + x.size) cur)).toArray t _ hg
    have hl : (Lib.byteCells x.data.toList).length = x.size := by rw [Lib.byteCells_length, ← Lib.size_eq]
    unfold RowAt splice
    rw [hl]
    simpa using this

theorem row_cell {w : World} {g : Nat} {t : TypeId} {L : List Value} (hg : RowAt w g t L) (j : Nat) : w.cell? ⟨g, j, none⟩ = L[j]? := by
  simp [World.cell?, RowAt] at *
  rw [hg]; simp

/-- string(b), b the first n cells of a row whose first cells are the bytes l -/
theorem text_of_row {P : Program} (w : World) (src dst e : TypeId) (hs : P.underlying src = some (.slice e)) (he : P.underlying e = some (.int .u8)) (hd : P.underlying dst = some .string)
    (g n cap : Nat) (t : TypeId) (l : List UInt8) (more : List Value) (hg : RowAt w g t (Lib.byteCells l ++ more)) (hn : l.length = n) :
    Sem.run P (convert src dst (.slice (some ⟨g, 0, none⟩) n cap)) w = .ok (.string ⟨l.toArray⟩) w := by
  subst hn
  refine run_convert_bytes_back (P := P) w src dst e ⟨g, 0, none⟩ cap l hs he hd ?_
  intro j hj
  have ha : (⟨g, 0, none⟩ : Addr).add j = ⟨g, j, none⟩ := by
    unfold Addr.add; split
    · rename_i h; subst h; rfl
    · simp
  rw [ha, row_cell hg, List.getElem?_append_left (by rw [Lib.byteCells_length]; exact hj)]
  simp [Lib.byteCells, hj]

theorem splice_two {α : Type} (Z X Y : List α) (h : Z.length = X.length + Y.length) : splice (splice Z 0 X) X.length Y = X ++ Y := by
  unfold splice
  simp
  omega
theorem byteCells_append (a b : List UInt8) : Lib.byteCells (a ++ b) = Lib.byteCells a ++ Lib.byteCells b := by simp [Lib.byteCells]
theorem text_append (x y : ByteArray) : (⟨(x.data.toList ++ y.data.toList).toArray⟩ : ByteArray) = x ++ y := by
  apply ByteArray.ext; simp
theorem size_list (l : List UInt8) : (⟨l.toArray⟩ : ByteArray).size = l.length := rfl
theorem len_cells (x : ByteArray) : (Lib.byteCells x.data.toList).length = x.size := by rw [Lib.byteCells_length, ← Lib.size_eq]
end Go.Proofs.YtmlacbjlafdenahDoor

/- A number's digits, as a plain function. -/
namespace Go.Proofs.YtmlacbjlafdenahDoor
open Go.RowKit
/-- the digits of m, none of 0; f: more than enough rounds -/
def decF : Nat → Nat → List UInt8
  | 0, _ => []
  | f + 1, m => if m = 0 then [] else decF f (m / 10) ++ [UInt8.ofNat (48 + m % 10)]
def decA (m : Nat) : List UInt8 := decF m m
theorem decF_enough (f : Nat) : ∀ g m, m ≤ f → m ≤ g → decF f m = decF g m := by
  induction f with
  | zero =>
    intro g m hf _
    obtain rfl : m = 0 := by omega
    cases g with
    | zero => rfl
    | succ g => rw [decF, decF, if_pos rfl]
  | succ f ih =>
    intro g m hf hg
    cases g with
    | zero =>
      obtain rfl : m = 0 := by omega
      rw [decF, decF, if_pos rfl]
    | succ g =>
      rw [decF, decF]
      split
      · rfl
      · rw [ih g (m / 10) (by omega) (by omega)]
theorem decA_zero : decA 0 = [] := rfl
theorem decA_pos {m : Nat} (h : 0 < m) : decA m = decA (m / 10) ++ [UInt8.ofNat (48 + m % 10)] := by
  unfold decA
  cases m with
  | zero => omega
  | succ m => rw [decF, if_neg (by omega), decF_enough m ((m + 1) / 10) ((m + 1) / 10) (by omega) (by omega)]
theorem decA_len (k : Nat) : ∀ m, m < 10 ^ k → (decA m).length ≤ k := by
  induction k with
  | zero => intro m h; obtain rfl : m = 0 := by simpa using h
            exact Nat.le_refl _
  | succ k ih =>
    intro m h
    by_cases h0 : m = 0
    · subst h0; rw [decA_zero]; simp
    · rw [decA_pos (by omega)]
      have := ih (m / 10) (by rw [Nat.div_lt_iff_lt_mul (by omega)]; rw [Nat.pow_succ] at h; omega)
      simp; omega
theorem decA_twenty {m : Nat} (h : m ≤ 9223372036854775808) : (decA m).length ≤ 20 := decA_len 20 m (Nat.lt_of_le_of_lt h (by decide))
/-- the digits of a number, a sign ahead of one below 0 -/
def decB (n : Int) : ByteArray := if n = 0 then ⟨#[48]⟩ else if n < 0 then ⟨#[45]⟩ ++ ⟨(decA n.natAbs).toArray⟩ else ⟨(decA n.natAbs).toArray⟩
theorem dec_step {m m0 : Nat} {o : List UInt8} (h : decA m ++ o = decA m0) (hm : 0 < m) : decA (m / 10) ++ (UInt8.ofNat (48 + m % 10) :: o) = decA m0 := by
  rw [← h, decA_pos hm]; simp
theorem one_row (k : Nat) (w : World) (t : TypeId) (hk : k < 256) : RowAt (w.alloc (.cells #[.int .u8 (k : Int)] t)) w.heap.size t (Lib.byteCells [UInt8.ofNat k] ++ []) := by
  unfold RowAt; rw [heap_alloc_new]
  simp [Lib.byteCells]
  omega
theorem cons_text (b : UInt8) (o : List UInt8) : (⟨[b].toArray⟩ : ByteArray) ++ ⟨o.toArray⟩ = ⟨(b :: o).toArray⟩ := by
  apply ByteArray.ext; simp
end Go.Proofs.YtmlacbjlafdenahDoor

/- The walk of the specification's l01Dec: a number's digits. -/
namespace Go.Proofs.YtmlacbjlafdenahDoor
open Go.RowKit
end Go.Proofs.YtmlacbjlafdenahDoor

/- Rows of texts that a law reads, marks and reads again; the marks' texts. -/
namespace Go.Proofs.YtmlacbjlafdenahDoor
open Go.RowKit

/-- the mark of a number above 0 -/
def markT (k : Nat) : ByteArray := ⟨#[109]⟩ ++ ⟨(decA k).toArray⟩

/-- a slice of n texts, f of each place, that lies from block B on -/
def SliceS (w : World) (B : Nat) (v : Value) (n : Nat) (f : Nat → ByteArray) : Prop :=
  ∃ p cap, v = .slice p n cap ∧ (0 < n → ∃ g, p = some ⟨g, 0, none⟩ ∧ B ≤ g ∧ g < w.heap.size ∧ ∀ j, j < n → w.cell? ⟨g, j, none⟩ = some (.string (f j)) ∧ w.frozen? ⟨g, j, none⟩ = false)
theorem SliceS.below {w w' : World} {B n : Nat} {v : Value} {f : Nat → ByteArray} (h : SliceS w B v n f) (hb : Below w.heap.size w w') : SliceS w' B v n f := by
  obtain ⟨p, cap, rfl, h⟩ := h
  refine ⟨p, cap, rfl, fun hn => ?_⟩
  obtain ⟨g, rfl, hB, hg, hc⟩ := h hn
  have hs := hb.size
  refine ⟨g, rfl, hB, by omega, fun j hj => ⟨?_, ?_⟩⟩
  · rw [(bcell hb).1 _ _ hg]; exact (hc j hj).1
  · rw [(bcell hb).2 _ _ hg]; exact (hc j hj).2
/-- a row below B stays while rows from B on are written -/
theorem SliceS.kept {w w' : World} {B B' n : Nat} {v : Value} {f : Nat → ByteArray} (h : SliceS w B v n f) (hb : Below B' w w') (hlt : ∀ g cap m, v = .slice (some ⟨g, 0, none⟩) m cap → g < B') : SliceS w' B v n f := by
  obtain ⟨p, cap, rfl, h⟩ := h
  refine ⟨p, cap, rfl, fun hn => ?_⟩
  obtain ⟨g, rfl, hB, hg, hc⟩ := h hn
  have hs := hb.size
  have hl := hlt g cap n rfl
  refine ⟨g, rfl, hB, by omega, fun j hj => ⟨?_, ?_⟩⟩
  · rw [hb.cell (p := ⟨g, j, none⟩) hl]; exact (hc j hj).1
  · rw [hb.frozen (p := ⟨g, j, none⟩) hl]; exact (hc j hj).2
theorem SliceS.lt {w : World} {B n : Nat} {v : Value} {f : Nat → ByteArray} (h : SliceS w B v (n + 1) f) : ∀ g cap m, v = .slice (some ⟨g, 0, none⟩) m cap → g < w.heap.size := by
  obtain ⟨p, cap, rfl, h⟩ := h
  obtain ⟨g, rfl, hB, hg, hc⟩ := h (by omega)
  intro g' cap' m e
  injection e with e1
  injection e1 with e1
  injection e1 with e1
  omega
theorem SliceS.mono {w : World} {B B' n : Nat} {v : Value} {f : Nat → ByteArray} (h : SliceS w B v n f) (hB : B' ≤ B) : SliceS w B' v n f := by
  obtain ⟨p, cap, rfl, h⟩ := h
  refine ⟨p, cap, rfl, fun hn => ?_⟩
  obtain ⟨g, rfl, h1, h2⟩ := h hn
  exact ⟨g, rfl, by omega, h2⟩

set_option maxRecDepth 10000 in
set_option maxHeartbeats 400000 in
theorem markText_any (n : Nat) (w : World) (hn : 0 < n) (hm : n ≤ 9223372036854775807) :
    Calls Tryd.prog 34 #[.int .i64 (n : Int)] w fun e w' => e = .returned (.string (markT n)) ∧ Below w.heap.size w w' := by
  have q2 : decide (n = 0) = false := by rw [decide_eq_false_iff_not]; omega
  have q3 : ¬ n = 0 := by omega
  have hl := decA_twenty (m := n) (by omega)
  go_enter Tryd.func34, Tryd.ntmps34
  go_wp2
  go_loopw [0, 3] (fun x o wr => ∃ (m : Nat) (z : Int) (l : List UInt8), m ≤ n ∧ x = .int .i64 z ∧ z = (m : Int) ∧ o = .string ⟨l.toArray⟩ ∧ Hid (decA m ++ l = decA n) ∧ Below w.heap.size w wr) (fun x _ _ => (intOf x).natAbs)
  case atStart => exact ⟨n, _, [], Nat.le_refl _, rfl, rfl, rfl, List.append_nil _, Below.refl _ _⟩
  case round =>
    obtain ⟨m, z, l, hmn, rfl, rfl, rfl, HL, hb⟩ := hrel
    have hll : l.length ≤ 20 := by
      have := congrArg List.length HL.out
      rw [List.length_append] at this; omega
    have hbs := hb.size
    by_cases h0 : 0 < m
    · have hsz : (⟨l.toArray⟩ : ByteArray).size ≤ 20 := hll
      have hr : RowAt (wr.alloc (.cells #[.int .u8 (48 + (m : Int) % 10)] 5)) wr.heap.size 5 (Lib.byteCells [UInt8.ofNat (48 + m % 10)] ++ []) := by
        rw [show (48 + (m : Int) % 10) = ((48 + m % 10 : Nat) : Int) by omega]; exact one_row _ wr _ (by omega)
      have HS : Hid (decA (m / 10) ++ (UInt8.ofNat (48 + m % 10) :: l) = decA n) := dec_step HL.out h0
      have HT : Hid ((⟨[UInt8.ofNat (48 + m % 10)].toArray⟩ : ByteArray) ++ ⟨l.toArray⟩ = ⟨(UInt8.ofNat (48 + m % 10) :: l).toArray⟩) := cons_text _ _
      have hone : (⟨[UInt8.ofNat (48 + m % 10)].toArray⟩ : ByteArray).size ≤ 1 := Nat.le_refl _
      go_wp2_with fail
      rw [text_of_row (P := Tryd.prog) _ 57 9 5 Tryd.underlying57 Tryd.underlying5 Tryd.underlying9 wr.heap.size 1 1 5 _ _ hr rfl]
      clear hr
      generalize (⟨[UInt8.ofNat (48 + m % 10)].toArray⟩ : ByteArray) = b1 at *
      generalize (⟨l.toArray⟩ : ByteArray) = o1 at *
      have hb2 : Below w.heap.size w (wr.alloc (.cells #[.int .u8 (48 + (m : Int) % 10)] 5)) := hb.alloc hbs _
      go_wp2
      go_roundw
      case rel => exact ⟨m / 10, _, UInt8.ofNat (48 + m % 10) :: l, by omega, rfl, by omega, by rw [HT.out], HS, hb2⟩
      case measure => simp [intOf]; omega
    · obtain rfl : m = 0 := by omega
      have HE : Hid (markT n = ⟨#[109]⟩ ++ ⟨l.toArray⟩) := by
        show _ = _
        rw [markT, ← HL.out, decA_zero]; rfl
      have hsz : (⟨l.toArray⟩ : ByteArray).size ≤ 20 := hll
      clear hll
      generalize (⟨l.toArray⟩ : ByteArray) = o1 at *
      go_wp2
      go_ret
      exact ⟨ret_text HE.out.symm, hb⟩
end Go.Proofs.YtmlacbjlafdenahDoor

/- The laws' eqStringS, markStringS, heldStringS. -/
namespace Go.Proofs.YtmlacbjlafdenahDoor
open Go.RowKit

set_option maxRecDepth 10000 in
set_option maxHeartbeats 400000 in
theorem eqStringS_any (a b : Value) (n B B' : Nat) (f : Nat → ByteArray) (w : World) (ha : SliceS w B a n f) (hb : SliceS w B' b n f) (hn : n ≤ 1048576) :
    Calls Tryd.prog 12 #[a, b] w fun e w' => e = .returned (.bool true) ∧ Below w.heap.size w w' := by
  obtain ⟨p, cap, rfl, h1⟩ := ha
  obtain ⟨p', cap', rfl, h2⟩ := hb
  cases n with
  | zero =>
    clear h1 h2
    go_enter Tryd.func12, Tryd.ntmps12
    go_wp2
    go_loop [5] (fun i => i = .int .i64 0) (fun _ => 0)
    case atStart => rfl
    case round =>
      subst hrel
      go_wp2
      go_ret
      exact ⟨rfl, Below.refl _ _⟩
  | succ n =>
    obtain ⟨g, rfl, _, hg, hc⟩ := h1 (by omega)
    obtain ⟨g', rfl, _, hg', hc'⟩ := h2 (by omega)
    clear h1 h2
    have HC : Hid (∀ j, j < n + 1 → w.cell? ⟨g, j, none⟩ = some (.string (f j)) ∧ w.frozen? ⟨g, j, none⟩ = false) := hc
    have HC' : Hid (∀ j, j < n + 1 → w.cell? ⟨g', j, none⟩ = some (.string (f j)) ∧ w.frozen? ⟨g', j, none⟩ = false) := hc'
    clear hc hc'
    go_enter Tryd.func12, Tryd.ntmps12
    go_wp2
    go_loopw [5] (fun i wr => ∃ k : Nat, k ≤ n + 1 ∧ i = .int .i64 k ∧ Below w.heap.size w wr) (fun i _ => n + 1 - (intOf i).toNat)
    case atStart => exact ⟨0, by omega, rfl, Below.refl _ _⟩
    case round =>
      obtain ⟨k, hk, rfl, hb⟩ := hrel
      by_cases hlt : k < n + 1
      · have c1 : wr.cell? ⟨g, k, none⟩ = some (.string (f k)) := by rw [(bcell hb).1 _ _ hg]; exact (HC.out k hlt).1
        have c2 : wr.cell? ⟨g', k, none⟩ = some (.string (f k)) := by rw [(bcell hb).1 _ _ hg']; exact (HC'.out k hlt).1
        have k0 : (0 : Int) ≤ k := by omega
        have k1 : (k : Int) < (n : Int) + 1 := by omega
        generalize f k = x at *
        go_wp2_with fail
        go_region_held3 (fun w' => w'.cell? ⟨g, k, none⟩ = some (.string x) ∧ w'.cell? ⟨g', k, none⟩ = some (.string x)) (go_keep) (fail)
        go_wp2
        go_roundw
        case rel => exact ⟨k + 1, by omega, by go_num, hb.trans (Below.drew (Below.refl _ _))⟩
        case measure => simp [intOf]; omega
      · go_wp2
        go_ret
        exact ⟨rfl, hb⟩

/-- the first k places marked from q on, the rest as they were -/
def marked (f : Nat → ByteArray) (q k j : Nat) : ByteArray := if j < k then markT (q + j) else f j
theorem marked_step (f : Nat → ByteArray) (q k j : Nat) (h : j ≠ k) : marked f q (k + 1) j = marked f q k j := by
  unfold marked
  by_cases h1 : j < k
  · rw [if_pos (by omega), if_pos h1]
  · rw [if_neg (by omega), if_neg h1]
theorem marked_at (f : Nat → ByteArray) (q k : Nat) : marked f q (k + 1) k = markT (q + k) := by
  unfold marked; rw [if_pos (by omega)]
theorem marked_all (f : Nat → ByteArray) (q n j : Nat) (h : j < n) : marked f q n j = markT (q + j) := by
  unfold marked; rw [if_pos h]

set_option maxRecDepth 10000 in
set_option maxHeartbeats 400000 in
theorem markStringS_any (a : Value) (n B q : Nat) (f : Nat → ByteArray) (w : World) (ha : SliceS w B a n f) (hn : n ≤ 1048576) (hq : 0 < q) (hq2 : q ≤ 1048576) :
    Calls Tryd.prog 15 #[a, .int .i64 (q : Int)] w fun e w' => e = .returned (.int .i64 ((q + n : Nat) : Int)) ∧ SliceS w' B a n (fun j => markT (q + j)) ∧ (∀ B', B' ≤ B → B' ≤ w.heap.size → Below B' w w') := by
  obtain ⟨p, cap, rfl, h1⟩ := ha
  cases n with
  | zero =>
    clear h1
    go_enter Tryd.func15, Tryd.ntmps15
    go_wp2
    go_loop [1, 5] (fun kk i => kk = .int .i64 (q : Int) ∧ i = .int .i64 0) (fun _ _ => 0)
    case atStart => exact ⟨rfl, rfl⟩
    case round =>
      obtain ⟨rfl, rfl⟩ := hrel
      go_wp2
      go_ret
      exact ⟨rfl, ⟨p, cap, rfl, fun h => absurd h (by omega)⟩, fun _ _ _ => Below.refl _ _⟩
  | succ n =>
    obtain ⟨g, rfl, hBg, hg, hc⟩ := h1 (by omega)
    clear h1
    have HC : Hid (∀ j, j < n + 1 → w.cell? ⟨g, j, none⟩ = some (.string (f j)) ∧ w.frozen? ⟨g, j, none⟩ = false) := hc
    clear hc
    have HM : Hid (∀ (m : Nat) (W : World), 0 < m → m ≤ 9223372036854775807 → Calls Tryd.prog 34 #[.int .i64 (m : Int)] W fun e w' => e = .returned (.string (markT m)) ∧ Below W.heap.size W w') := fun m W h1 h2 => markText_any m W h1 h2
    go_enter Tryd.func15, Tryd.ntmps15
    go_wp2
    go_loopw [1, 5] (fun kk i wr => ∃ k : Nat, k ≤ n + 1 ∧ i = .int .i64 k ∧ kk = .int .i64 ((q + k : Nat) : Int)  ∧ g < wr.heap.size ∧ w.heap.size ≤ wr.heap.size ∧ Hid (∀ j, j < n + 1 → wr.cell? ⟨g, j, none⟩ = some (.string (marked f q k j)) ∧ wr.frozen? ⟨g, j, none⟩ = false) ∧ Hid (∀ B', B' ≤ B → B' ≤ w.heap.size → Below B' w wr)) (fun _ i _ => n + 1 - (intOf i).toNat)
    case atStart => exact ⟨0, by omega, rfl, rfl, hg, Nat.le_refl _, HC, fun _ _ _ => Below.refl _ _⟩
    case round =>
      obtain ⟨k, hk, rfl, rfl, hgr, hwr, HR, HB⟩ := hrel
      by_cases hlt : k < n + 1
      · have k0 : (0 : Int) ≤ k := by omega
        have k1 : (k : Int) < (n : Int) + 1 := by omega
        have HN : Hid (∀ W, Calls Tryd.prog 34 #[.int .i64 ((q : Int) + (k : Int))] W fun e w' => e = .returned (.string (markT (q + k))) ∧ Below W.heap.size W w') := fun W => HM.out (q + k) W (by omega) (by omega)
        go_wp2_with fail
        refine (HN.out _).mono ?_
        rintro e w1 ⟨rfl, hb⟩
        have hs := hb.size
        have c1 : w1.cell? ⟨g, k, none⟩ = some (.string (marked f q k k)) := by rw [(bcell hb).1 _ _ hgr]; exact (HR.out k hlt).1
        have c2 : w1.frozen? ⟨g, k, none⟩ = false := by rw [(bcell hb).2 _ _ hgr]; exact (HR.out k hlt).2
        have HR1 : Hid (∀ j, j < n + 1 → w1.cell? ⟨g, j, none⟩ = some (.string (marked f q k j)) ∧ w1.frozen? ⟨g, j, none⟩ = false) := fun j hj => ⟨by rw [(bcell hb).1 _ _ hgr]; exact (HR.out j hj).1, by rw [(bcell hb).2 _ _ hgr]; exact (HR.out j hj).2⟩
        have HB1 : Hid (∀ B', B' ≤ B → B' ≤ w.heap.size → Below B' w w1) := fun B' h1 h2 => (HB.out B' h1 h2).trans (hb.mono (by omega))
        clear hb
        generalize HT : markT (q + k) = t at *
        have HT' : Hid (markT (q + k) = t) := HT
        clear HT
        generalize marked f q k k = x at *
        go_wp2
        go_roundw
        case rel =>
          refine ⟨k + 1, by omega, by go_num, by go_num, ?_, ?_, ?_, ?_⟩
          · simp [World.setCell]; omega
          · simp [World.setCell]; omega
          · intro j hj
            by_cases e : j = k
            · subst e
              rw [marked_at, HT'.out]
              exact ⟨World.cell?_setCell_same _ _ _ c1, by rw [World.frozen?_setCell]; exact c2⟩
            · rw [marked_step f q k j e, World.cell?_setCell_other _ _ _ _ (by intro h; injection h with _ h; exact e h.symm), World.frozen?_setCell]
              exact HR1.out j hj
          · intro B' h1 h2
            exact (HB1.out B' h1 h2).setCell (by simpa using Nat.le_trans h1 hBg) _
        case measure => simp [intOf]; omega
      · obtain rfl : k = n + 1 := by omega
        go_wp2
        go_ret
        exact ⟨rfl, ⟨_, cap, rfl, fun _ => ⟨g, rfl, hBg, hgr, fun j hj => by have h := HR.out j hj; rw [marked_all f q (n + 1) j hj] at h; exact h⟩⟩, HB.out⟩

set_option maxRecDepth 10000 in
set_option maxHeartbeats 400000 in
theorem heldStringS_any (a : Value) (n B q : Nat) (w : World) (ha : SliceS w B a n (fun j => markT (q + j))) (hn : n ≤ 1048576) (hq : 0 < q) (hq2 : q ≤ 1048576) :
    Calls Tryd.prog 16 #[a, .int .i64 (q : Int)] w fun e w' => e = .returned (.int .i64 ((q + n : Nat) : Int)) ∧ Below w.heap.size w w' := by
  obtain ⟨p, cap, rfl, h1⟩ := ha
  cases n with
  | zero =>
    clear h1
    go_enter Tryd.func16, Tryd.ntmps16
    go_wp2
    go_loop [1, 4, 5] (fun kk r i => kk = .int .i64 (q : Int) ∧ i = .int .i64 0) (fun _ _ _ => 0)
    case atStart => exact ⟨rfl, rfl⟩
    case round =>
      obtain ⟨rfl, rfl⟩ := hrel
      go_wp2
      go_ret
      exact ⟨rfl, Below.refl _ _⟩
  | succ n =>
    obtain ⟨g, rfl, hBg, hg, hc⟩ := h1 (by omega)
    clear h1
    have HC : Hid (∀ j, j < n + 1 → w.cell? ⟨g, j, none⟩ = some (.string (markT (q + j))) ∧ w.frozen? ⟨g, j, none⟩ = false) := hc
    clear hc
    have HM : Hid (∀ (m : Nat) (W : World), 0 < m → m ≤ 9223372036854775807 → Calls Tryd.prog 34 #[.int .i64 (m : Int)] W fun e w' => e = .returned (.string (markT m)) ∧ Below W.heap.size W w') := fun m W h1 h2 => markText_any m W h1 h2
    go_enter Tryd.func16, Tryd.ntmps16
    go_wp2
    go_loopw [1, 4, 5] (fun kk r i wr => ∃ k : Nat, k ≤ n + 1 ∧ i = .int .i64 k ∧ kk = .int .i64 ((q + k : Nat) : Int) ∧ Below w.heap.size w wr) (fun _ _ i _ => n + 1 - (intOf i).toNat)
    case atStart => exact ⟨0, by omega, rfl, rfl, Below.refl _ _⟩
    case round =>
      obtain ⟨k, hk, rfl, rfl, hb⟩ := hrel
      by_cases hlt : k < n + 1
      · have k0 : (0 : Int) ≤ k := by omega
        have k1 : (k : Int) < (n : Int) + 1 := by omega
        have HN : Hid (∀ W, Calls Tryd.prog 34 #[.int .i64 ((q : Int) + (k : Int))] W fun e w' => e = .returned (.string (markT (q + k))) ∧ Below W.heap.size W w') := fun W => HM.out (q + k) W (by omega) (by omega)
        have c1 : wr.cell? ⟨g, k, none⟩ = some (.string (markT (q + k))) := by rw [(bcell hb).1 _ _ hg]; exact (HC.out k hlt).1
        have hgr : g < wr.heap.size := Nat.lt_of_lt_of_le hg hb.size
        have HB : Hid (Below w.heap.size w wr) := hb
        have hs := hb.size
        clear hb
        generalize markT (q + k) = t at *
        go_wp2_with fail
        go_region_held3 (fun w' => w'.cell? ⟨g, k, none⟩ = some (.string t)) (go_keep)
          (first | (go_at_call 34; refine (HN.out _).mono ?_; rintro e w2 ⟨rfl, hb2⟩; have hd0 : w2.cell? ⟨g, k, none⟩ = some (.string t) := (hb2.cell (p := ⟨g, k, none⟩) (by simpa using hgr)).trans (by simpa using c1)))
        all_goals go_wp2
        all_goals go_roundw
        case rel => exact ⟨k + 1, by omega, by go_num, by go_num, HB.out.trans ((Below.drew (Below.refl _ _)).trans (hb2.mono (by simp; omega)))⟩
        case measure => simp [intOf]; omega
      · obtain rfl : k = n + 1 := by omega
        go_wp2
        go_ret
        exact ⟨rfl, hb⟩
end Go.Proofs.YtmlacbjlafdenahDoor

/- A slice of texts that came in; the laws' szStringS and toStringS over it. -/
namespace Go.Proofs.YtmlacbjlafdenahDoor
open Go.RowKit

/-- n texts, f of each place, that a slice leads to -/
def StrRow (w : World) (a : Option Addr) (n : Nat) (f : Nat → ByteArray) : Prop := ∀ i, i < n → ∃ x, a = some x ∧ x.block < w.heap.size ∧ w.cell? (x.add i) = some (.string (f i)) ∧ (f i).size ≤ maxLen
theorem StrRow.below {w w' : World} {a : Option Addr} {n : Nat} {f : Nat → ByteArray} (h : StrRow w a n f) (hb : Below w.heap.size w w') : StrRow w' a n f := by
  intro i hi
  obtain ⟨x, e, hx, hc, hs⟩ := h i hi
  have hxb : (x.add i).block = x.block := by unfold Addr.add; split <;> rfl
  exact ⟨x, e, Nat.lt_of_lt_of_le hx hb.size, by rw [hb.cell (p := x.add i) (by rw [hxb]; exact hx)]; exact hc, hs⟩

set_option maxRecDepth 10000 in
set_option maxHeartbeats 400000 in
theorem szStringS_any (a : Option Addr) (n cap : Nat) (f : Nat → ByteArray) (l : Int) (w : World) (hr : StrRow w a n f) (hn : n ≤ maxLen) (h0 : 0 ≤ l) (h1 : l ≤ 1048576) :
    Calls Tryd.prog 8 #[.slice a n cap, .int .i64 l] w fun e w' => (∃ r : Int, e = .returned (.int .i64 r) ∧ (r < 0 ∨ (0 ≤ r ∧ r ≤ l ∧ (n : Int) ≤ l ∧ ∀ i, i < n → ((f i).size : Int) ≤ l))) ∧ w' = w := by
  unfold maxLen at hn
  by_cases hl : l < n
  · have q : decide (l - (n : Int) < 0) = true := by rw [decide_eq_true_iff]; omega
    go_enter Tryd.func8, Tryd.ntmps8
    go_wp2
    go_ret
    exact ⟨⟨_, rfl, .inl (by decide)⟩, rfl⟩
  have q : decide (l - (n : Int) < 0) = false := by rw [decide_eq_false_iff_not]; omega
  have HR : Hid (StrRow w a n f) := hr
  clear hr
  go_enter Tryd.func8, Tryd.ntmps8
  go_wp2
  go_loop [1, 5] (fun v i => ∃ (k : Nat) (z : Int), k ≤ n ∧ v = .int .i64 z ∧ i = .int .i64 k ∧ 0 ≤ z ∧ z ≤ l ∧ Hid (∀ i, i < k → ((f i).size : Int) ≤ l)) (fun _ i => n - (intOf i).toNat)
  case atStart => exact ⟨0, _, Nat.zero_le _, rfl, rfl, by omega, by omega, fun i hi => absurd hi (by omega)⟩
  case round =>
    obtain ⟨k, z, hk, rfl, rfl, z0, zl, HS⟩ := hrel
    by_cases hlt : k < n
    · obtain ⟨x, rfl, hx, hc, hs⟩ := HR.out k hlt
      unfold maxLen at hs
      have k0 : (0 : Int) ≤ k := by omega
      have k1 : (k : Int) < n := by omega
      by_cases hz : z < (f k).size
      · have q2 : decide (z - ((f k).size : Int) < 0) = true := by rw [decide_eq_true_iff]; omega
        go_wp2
        go_ret
        exact ⟨⟨_, rfl, .inl (by decide)⟩, rfl⟩
      · have q2 : decide (z - ((f k).size : Int) < 0) = false := by rw [decide_eq_false_iff_not]; omega
        go_wp2
        go_round
        case rel =>
          refine ⟨k + 1, _, by omega, rfl, by go_num, by omega, by omega, ?_⟩
          intro i hi
          by_cases e : i = k
          · subst e; omega
          · exact HS.out i (by omega)
        case measure => simp [intOf]; omega
    · go_wp2
      go_ret
      exact ⟨⟨_, rfl, .inr (by first | exact ⟨z0, zl, by omega, fun i hi => HS.out i (by omega)⟩ | exact ⟨z0, zl, fun i hi => HS.out i (by omega)⟩)⟩, rfl⟩

theorem infoStr2 : (Tryd.prog.info? 9).map (fun i => (i.zero, i.size, i.bytes)) = some (some (.string ⟨#[]⟩), 1, 16) := by kernel_rfl
theorem make_strs (w : World) (n : Nat) (hn : n ≤ 1048576) :
    ∃ w', Sem.run Tryd.prog (Instr.makeSlice 22 (.int .i64 (n : Int)) (.int .i64 (n : Int))) w = .ok (.slice (some ⟨w.heap.size, 0, none⟩) n n) w' ∧ w.heap.size < w'.heap.size ∧
      (∀ j, j < n → w'.cell? ⟨w.heap.size, j, none⟩ = some (.string ⟨#[]⟩) ∧ w'.frozen? ⟨w.heap.size, j, none⟩ = false) ∧ Below w.heap.size w w' := by
  obtain ⟨i, h2, h3, h4, h5⟩ := info_parts infoStr2
  have hrun := run_make (P := Tryd.prog) w 22 9 i (.string ⟨#[]⟩) Tryd.underlying22 h2 h3 .i64 .i64 n n (by omega) (Int.le_refl _) (by rw [h5]; omega) (by omega)
  simp only [Int.toNat_natCast, h4, Nat.mul_one] at hrun
  refine ⟨_, hrun, by simp, fun j hj => ⟨?_, by simp⟩, (Below.refl _ _).alloc (Nat.le_refl _) _⟩
  have e : madeCells (Value.string ⟨#[]⟩).cells n = Lib.cellsOf [] n := (Lib.cellsOf_nil n).symm
  rw [e, World.cell?_alloc_new]
  simp [Lib.cellsOf, hj]
  rfl

/-- the first k of f, the others empty -/
def upto (f : Nat → ByteArray) (k j : Nat) : ByteArray := if j < k then f j else ⟨#[]⟩
theorem upto_at (f : Nat → ByteArray) (k : Nat) : upto f (k + 1) k = f k := by unfold upto; rw [if_pos (Nat.lt_succ_self _)]
theorem upto_else (f : Nat → ByteArray) (k j : Nat) (h : ¬ j = k) : upto f (k + 1) j = upto f k j := by
  unfold upto
  by_cases hj : j < k
  · rw [if_pos hj, if_pos (by omega)]
  · rw [if_neg hj, if_neg (by omega)]
theorem upto_all (f : Nat → ByteArray) (n j : Nat) (h : j < n) : upto f n j = f j := by unfold upto; rw [if_pos h]
set_option maxRecDepth 10000 in
set_option maxHeartbeats 1000000 in
theorem toStringS_any (a : Option Addr) (n cap : Nat) (f : Nat → ByteArray) (w : World) (hr : StrRow w a n f) (hn : n ≤ 1048576) :
    Calls Tryd.prog 10 #[.slice a n cap] w fun e w' => ∃ v, e = .returned v ∧ SliceS w' w.heap.size v n f ∧ Below w.heap.size w w' := by
  have HR : Hid (StrRow w a n f) := hr
  clear hr
  obtain ⟨w1, hmk, hz1, hc1, hb1⟩ := make_strs w n hn
  have HC1 : Hid (∀ j, j < n → w1.cell? ⟨w.heap.size, j, none⟩ = some (.string (upto f 0 j)) ∧ w1.frozen? ⟨w.heap.size, j, none⟩ = false) := fun j hj => ⟨by rw [upto, if_neg (by omega)]; exact (hc1 j hj).1, (hc1 j hj).2⟩
  have HB1 : Hid (Below w.heap.size w w1) := hb1
  clear hc1 hb1
  go_enter Tryd.func10, Tryd.ntmps10
  go_wp2
  clear hmk
  go_loopw [4] (fun i wr => ∃ k : Nat, k ≤ n ∧ i = .int .i64 k ∧ w.heap.size < wr.heap.size ∧ Hid (Below w.heap.size w wr) ∧ Hid (∀ j, j < n → wr.cell? ⟨w.heap.size, j, none⟩ = some (.string (upto f k j)) ∧ wr.frozen? ⟨w.heap.size, j, none⟩ = false)) (fun i _ => n - (intOf i).toNat)
  case atStart => exact ⟨0, Nat.zero_le _, rfl, hz1, HB1, HC1⟩
  case round =>
    obtain ⟨k, hk, rfl, hzr, HB, HC⟩ := hrel
    by_cases hlt : k < n
    · obtain ⟨x, rfl, hx, hc, hs⟩ := HR.out k hlt
      have hxb : (x.add k).block = x.block := by unfold Addr.add; split <;> rfl
      have hcr : wr.cell? (x.add k) = some (.string (f k)) := by rw [HB.out.cell (p := x.add k) (by rw [hxb]; exact hx)]; exact hc
      have d1 := (HC.out k hlt).1
      have d2 := (HC.out k hlt).2
      have k0 : (0 : Int) ≤ k := by omega
      have k1 : (k : Int) < n := by omega
      clear hs hc
      go_wp2
      go_roundw
      case rel =>
        refine ⟨k + 1, by omega, by go_num, ?_, ?_, ?_⟩
        · simpa [World.setCell] using hzr
        · exact HB.out.setCell (Nat.le_refl _) _
        · intro j hj
          by_cases e : j = k
          · subst e
            rw [upto_at]
            exact ⟨World.cell?_setCell_same _ _ _ d1, by rw [World.frozen?_setCell]; exact d2⟩
          · rw [upto_else f k j e, World.cell?_setCell_other _ _ _ _ (by intro h; injection h with _ h; exact e h.symm), World.frozen?_setCell]
            exact HC.out j hj
      case measure => simp [intOf]; omega
    · go_wp2
      go_ret
      refine ⟨_, rfl, ⟨_, _, rfl, fun _ => ⟨w.heap.size, rfl, Nat.le_refl _, hzr, fun j hj => ?_⟩⟩, HB.out⟩
      have h := HC.out j hj
      obtain rfl : k = n := by omega
      rw [upto_all f k j hj] at h
      exact h
end Go.Proofs.YtmlacbjlafdenahDoor

/- What a label and a path of a url are, as plain functions, with the facts that walks close with. -/
namespace Go.Proofs.YtmlacbjlafdenahDoor
/-- may the byte stand in a label? -/
def labC (c : Nat) : Bool := decide ((97 ≤ c ∧ c ≤ 122) ∨ (48 ≤ c ∧ c ≤ 57) ∨ c = 45)
def labelB (t : ByteArray) : Bool := decide (1 ≤ t.size ∧ t.size ≤ 12 ∧ (∀ h : 0 < t.size, ¬ t[0].toNat = 45) ∧ (∀ h : t.size - 1 < t.size, ¬ t[t.size - 1].toNat = 45) ∧ ∀ i (h : i < t.size), labC t[i].toNat = true)
theorem labelB_size {t : ByteArray} (h : t.size < 1 ∨ 12 < t.size) : labelB t = false := by
  unfold labelB; rw [decide_eq_false_iff_not]; rintro ⟨a, b, _⟩; omega
theorem labelB_first {t : ByteArray} (h : 0 < t.size) (hc : t[0].toNat = 45) : labelB t = false := by
  unfold labelB; rw [decide_eq_false_iff_not]; rintro ⟨_, _, a, _⟩; exact a h hc
theorem labelB_last {t : ByteArray} (h : t.size - 1 < t.size) (hc : t[t.size - 1].toNat = 45) : labelB t = false := by
  unfold labelB; rw [decide_eq_false_iff_not]; rintro ⟨_, _, _, a, _⟩; exact a h hc
theorem labelB_at {t : ByteArray} (k : Nat) (h : k < t.size) (hk : labC t[k].toNat = false) : labelB t = false := by
  unfold labelB; rw [decide_eq_false_iff_not]; rintro ⟨_, _, _, _, c⟩; rw [c k h] at hk; cases hk
theorem labelB_true {t : ByteArray} (h1 : 1 ≤ t.size) (h2 : t.size ≤ 12) (h3 : ∀ h : 0 < t.size, ¬ t[0].toNat = 45) (h4 : ∀ h : t.size - 1 < t.size, ¬ t[t.size - 1].toNat = 45)
    (h : ∀ i (h : i < t.size), labC t[i].toNat = true) : labelB t = true := by
  unfold labelB; rw [decide_eq_true_iff]; exact ⟨h1, h2, h3, h4, h⟩
theorem labC_yes {c : Nat} (h : (97 ≤ c ∧ c ≤ 122) ∨ (48 ≤ c ∧ c ≤ 57) ∨ c = 45) : labC c = true := by unfold labC; rw [decide_eq_true_iff]; exact h
theorem labC_no {c : Nat} (h : ¬ ((97 ≤ c ∧ c ≤ 122) ∨ (48 ≤ c ∧ c ≤ 57) ∨ c = 45)) : labC c = false := by unfold labC; rw [decide_eq_false_iff_not]; exact h
theorem all_succ {t : ByteArray} {P : Nat → Bool} {k : Nat} (hr : ∀ i (h : i < t.size), i < k → P t[i].toNat = true) (hk : k < t.size) (ho : P t[k].toNat = true) :
    ∀ i (h : i < t.size), i < k + 1 → P t[i].toNat = true := by
  intro i h hi
  by_cases e : i = k
  · subst e; exact ho
  · exact hr i h (by omega)
/-- may the byte stand in a path? -/
def pathC (c : Nat) : Bool := decide (33 ≤ c ∧ c ≤ 126 ∧ ¬ c = 63 ∧ ¬ c = 35 ∧ ¬ c = 59)
def pathB (t : ByteArray) : Bool := decide (1 ≤ t.size ∧ t.size ≤ 40 ∧ (∀ h : 0 < t.size, t[0].toNat = 47) ∧ ∀ i (h : i < t.size), pathC t[i].toNat = true)
theorem pathB_size {t : ByteArray} (h : t.size < 1 ∨ 40 < t.size) : pathB t = false := by
  unfold pathB; rw [decide_eq_false_iff_not]; rintro ⟨a, b, _⟩; omega
theorem pathB_first {t : ByteArray} (h : 0 < t.size) (hc : ¬ t[0].toNat = 47) : pathB t = false := by
  unfold pathB; rw [decide_eq_false_iff_not]; rintro ⟨_, _, a, _⟩; exact hc (a h)
theorem pathB_at {t : ByteArray} (k : Nat) (h : k < t.size) (hk : pathC t[k].toNat = false) : pathB t = false := by
  unfold pathB; rw [decide_eq_false_iff_not]; rintro ⟨_, _, _, c⟩; rw [c k h] at hk; cases hk
theorem pathB_true {t : ByteArray} (h1 : 1 ≤ t.size) (h2 : t.size ≤ 40) (h3 : ∀ h : 0 < t.size, t[0].toNat = 47) (h : ∀ i (h : i < t.size), pathC t[i].toNat = true) : pathB t = true := by
  unfold pathB; rw [decide_eq_true_iff]; exact ⟨h1, h2, h3, h⟩
theorem pathC_yes {c : Nat} (h : 33 ≤ c ∧ c ≤ 126 ∧ ¬ c = 63 ∧ ¬ c = 35 ∧ ¬ c = 59) : pathC c = true := by unfold pathC; rw [decide_eq_true_iff]; exact h
theorem pathC_no {c : Nat} (h : ¬ (33 ≤ c ∧ c ≤ 126 ∧ ¬ c = 63 ∧ ¬ c = 35 ∧ ¬ c = 59)) : pathC c = false := by unfold pathC; rw [decide_eq_false_iff_not]; exact h
end Go.Proofs.YtmlacbjlafdenahDoor

/- A text cut at a byte, as a plain function that goes byte by byte; what a host's labels are. -/
namespace Go.Proofs.YtmlacbjlafdenahDoor
/-- the cuts among the first i bytes, and where the last one ends -/
def splitTo (s : ByteArray) (c : Nat) : Nat → List ByteArray × Nat
  | 0 => ([], 0)
  | i + 1 => if h : i < s.size then (if s[i].toNat = c then ((splitTo s c i).1 ++ [s.extract (splitTo s c i).2 i], i + 1) else splitTo s c i) else splitTo s c i
def splitB (s : ByteArray) (c : Nat) : List ByteArray := (splitTo s c s.size).1 ++ [s.extract (splitTo s c s.size).2 s.size]
theorem splitTo_hit {s : ByteArray} {c i : Nat} (h : i < s.size) (hc : s[i].toNat = c) : splitTo s c (i + 1) = ((splitTo s c i).1 ++ [s.extract (splitTo s c i).2 i], i + 1) := by
  rw [splitTo, dif_pos h, if_pos hc]
theorem splitTo_miss {s : ByteArray} {c i : Nat} (h : i < s.size) (hc : ¬ s[i].toNat = c) : splitTo s c (i + 1) = splitTo s c i := by
  rw [splitTo, dif_pos h, if_neg hc]
theorem splitTo_le (s : ByteArray) (c i : Nat) : (splitTo s c i).2 ≤ i ∧ (splitTo s c i).1.length ≤ i := by
  induction i with
  | zero => exact ⟨Nat.le_refl _, Nat.le_refl _⟩
  | succ i ih =>
    rw [splitTo]
    split
    · split
      · exact ⟨Nat.le_refl _, by simp; omega⟩
      · exact ⟨by omega, by omega⟩
    · exact ⟨by omega, by omega⟩
theorem splitB_len (s : ByteArray) (c : Nat) : (splitB s c).length ≤ s.size + 1 := by
  have := (splitTo_le s c s.size).2
  unfold splitB; simp; omega
/-- a right host -/
def hostB (s : ByteArray) : Bool := decide (s.size ≤ 100) && (splitB s 46).all labelB && decide ((splitB s 46).length ≤ 6)
theorem hostB_size {s : ByteArray} (h : 100 < s.size) : hostB s = false := by
  unfold hostB; rw [decide_eq_false (by omega)]; rfl
theorem hostB_at {s : ByteArray} (k : Nat) (h : k < (splitB s 46).length) (hl : labelB ((splitB s 46)[k]) = false) : hostB s = false := by
  have : (splitB s 46).all labelB = false := by
    rw [List.all_eq_false]
    exact ⟨_, List.getElem_mem h, by simp [hl]⟩
  unfold hostB; rw [this]; simp
theorem hostB_all {s : ByteArray} (hs : s.size ≤ 100) (h : ∀ k (h : k < (splitB s 46).length), labelB ((splitB s 46)[k]) = true) : hostB s = decide ((splitB s 46).length ≤ 6) := by
  have : (splitB s 46).all labelB = true := by
    rw [List.all_eq_true]
    intro x hx
    obtain ⟨k, hk, rfl⟩ := List.getElem_of_mem hx
    exact h k hk
  unfold hostB; rw [this, decide_eq_true hs]; rfl
end Go.Proofs.YtmlacbjlafdenahDoor

/- The walks of the specification's l02Label and l02Path. -/
namespace Go.Proofs.YtmlacbjlafdenahDoor
open Go.RowKit

set_option maxRecDepth 10000 in
set_option maxHeartbeats 400000 in
theorem specLabel_any (t : ByteArray) (w : World) :
    Calls Tryd.prog 51 #[.string t] w fun e w' => e = .returned (.bool (labelB t)) ∧ w' = w := by
  by_cases h1 : t.size < 1
  · go_enter Tryd.func51, Tryd.ntmps51
    go_wp2
    go_ret
    exact ⟨ret_bool (labelB_size (.inl h1)).symm, rfl⟩
  have q1 : decide ((t.size : Int) < 1) = false := by rw [decide_eq_false_iff_not]; omega
  by_cases h2 : 12 < t.size
  · go_enter Tryd.func51, Tryd.ntmps51
    go_wp2
    go_ret
    exact ⟨ret_bool (labelB_size (.inr h2)).symm, rfl⟩
  have q2 : decide ((12 : Int) < (t.size : Int)) = false := by rw [decide_eq_false_iff_not]; omega
  have hp : 0 < t.size := by omega
  have hl : t.size - 1 < t.size := by omega
  by_cases h3 : t[0].toNat = 45
  · have q3 : ((t[0].toNat : Int) == 45) = true := by rw [beq_iff_eq]; omega
    have H3 : Hid (t[0].toNat = 45) := h3
    clear h3
    go_enter Tryd.func51, Tryd.ntmps51
    go_wp2
    go_ret
    exact ⟨ret_bool (labelB_first hp H3.out).symm, rfl⟩
  have q3 : ((t[0].toNat : Int) == 45) = false := by rw [beq_eq_false_iff_ne]; omega
  have H3 : Hid (¬ t[0].toNat = 45) := h3
  clear h3
  by_cases h4 : t[t.size - 1].toNat = 45
  · have q4 : ((t[t.size - 1].toNat : Int) == 45) = true := by rw [beq_iff_eq]; omega
    have H4 : Hid (t[t.size - 1].toNat = 45) := h4
    clear h4
    go_enter Tryd.func51, Tryd.ntmps51
    go_wp2
    go_ret
    exact ⟨ret_bool (labelB_last hl H4.out).symm, rfl⟩
  have q4 : ((t[t.size - 1].toNat : Int) == 45) = false := by rw [beq_eq_false_iff_ne]; omega
  have H4 : Hid (¬ t[t.size - 1].toNat = 45) := h4
  clear h4
  go_enter Tryd.func51, Tryd.ntmps51
  go_wp2
  go_loop [4, 5] (fun i _ => ∃ k : Nat, k ≤ t.size ∧ i = .int .i64 k ∧ Hid (∀ i (h : i < t.size), i < k → labC t[i].toNat = true)) (fun i _ => t.size - (intOf i).toNat)
  case atStart => exact ⟨0, Nat.zero_le _, rfl, fun i _ hi => absurd hi (by omega)⟩
  case round =>
    obtain ⟨k, hk, rfl, HR⟩ := hrel
    by_cases hlt : k < t.size
    · rcases (show (t[k].toNat < 45) ∨ (45 ≤ t[k].toNat ∧ t[k].toNat ≤ 45) ∨ (46 ≤ t[k].toNat ∧ t[k].toNat < 48) ∨ (48 ≤ t[k].toNat ∧ t[k].toNat ≤ 57) ∨ (58 ≤ t[k].toNat ∧ t[k].toNat < 97) ∨ (97 ≤ t[k].toNat ∧ t[k].toNat ≤ 122) ∨ (122 < t[k].toNat) by omega)
        with c1 | ⟨c1, c2⟩ | ⟨c1, c2⟩ | ⟨c1, c2⟩ | ⟨c1, c2⟩ | ⟨c1, c2⟩ | c1
      · have b1 : decide ((97 : Int) ≤ (t[k].toNat : Int)) = false := by rw [decide_eq_false_iff_not]; omega
        have b2 : decide ((48 : Int) ≤ (t[k].toNat : Int)) = false := by rw [decide_eq_false_iff_not]; omega
        have b3 : ((t[k].toNat : Int) == 45) = false := by rw [beq_eq_false_iff_ne]; omega
        go_wp2
        go_ret
        exact ⟨ret_bool (labelB_at k hlt (labC_no (by omega))).symm, rfl⟩
      · have b1 : decide ((97 : Int) ≤ (t[k].toNat : Int)) = false := by rw [decide_eq_false_iff_not]; omega
        have b2 : decide ((48 : Int) ≤ (t[k].toNat : Int)) = false := by rw [decide_eq_false_iff_not]; omega
        have b3 : ((t[k].toNat : Int) == 45) = true := by rw [beq_iff_eq]; omega
        go_wp2
        go_round
        case rel => exact ⟨k + 1, by omega, by go_num, all_succ HR.out hlt (labC_yes (by omega))⟩
        case measure => simp [intOf]; omega
      · have b1 : decide ((97 : Int) ≤ (t[k].toNat : Int)) = false := by rw [decide_eq_false_iff_not]; omega
        have b2 : decide ((48 : Int) ≤ (t[k].toNat : Int)) = false := by rw [decide_eq_false_iff_not]; omega
        have b3 : ((t[k].toNat : Int) == 45) = false := by rw [beq_eq_false_iff_ne]; omega
        go_wp2
        go_ret
        exact ⟨ret_bool (labelB_at k hlt (labC_no (by omega))).symm, rfl⟩
      · have b1 : decide ((97 : Int) ≤ (t[k].toNat : Int)) = false := by rw [decide_eq_false_iff_not]; omega
        go_wp2
        go_round
        case rel => exact ⟨k + 1, by omega, by go_num, all_succ HR.out hlt (labC_yes (by omega))⟩
        case measure => simp [intOf]; omega
      · have b1 : decide ((97 : Int) ≤ (t[k].toNat : Int)) = false := by rw [decide_eq_false_iff_not]; omega
        have b2 : decide ((t[k].toNat : Int) ≤ 57) = false := by rw [decide_eq_false_iff_not]; omega
        have b3 : ((t[k].toNat : Int) == 45) = false := by rw [beq_eq_false_iff_ne]; omega
        go_wp2
        go_ret
        exact ⟨ret_bool (labelB_at k hlt (labC_no (by omega))).symm, rfl⟩
      · go_wp2
        go_round
        case rel => exact ⟨k + 1, by omega, by go_num, all_succ HR.out hlt (labC_yes (by omega))⟩
        case measure => simp [intOf]; omega
      · have b1 : decide ((t[k].toNat : Int) ≤ 122) = false := by rw [decide_eq_false_iff_not]; omega
        have b2 : decide ((t[k].toNat : Int) ≤ 57) = false := by rw [decide_eq_false_iff_not]; omega
        have b3 : ((t[k].toNat : Int) == 45) = false := by rw [beq_eq_false_iff_ne]; omega
        go_wp2
        go_ret
        exact ⟨ret_bool (labelB_at k hlt (labC_no (by omega))).symm, rfl⟩
    · go_wp2
      go_ret
      exact ⟨ret_bool (labelB_true (by omega) (by omega) (fun _ => H3.out) (fun _ => H4.out) (fun i h => HR.out i h (by omega))).symm, rfl⟩

set_option maxRecDepth 10000 in
set_option maxHeartbeats 400000 in
theorem specPath_any (t : ByteArray) (w : World) :
    Calls Tryd.prog 61 #[.string t] w fun e w' => e = .returned (.bool (pathB t)) ∧ w' = w := by
  by_cases h1 : t.size < 1
  · go_enter Tryd.func61, Tryd.ntmps61
    go_wp2
    go_ret
    exact ⟨ret_bool (pathB_size (.inl h1)).symm, rfl⟩
  have q1 : decide ((t.size : Int) < 1) = false := by rw [decide_eq_false_iff_not]; omega
  by_cases h2 : 40 < t.size
  · go_enter Tryd.func61, Tryd.ntmps61
    go_wp2
    go_ret
    exact ⟨ret_bool (pathB_size (.inr h2)).symm, rfl⟩
  have q2 : decide ((40 : Int) < (t.size : Int)) = false := by rw [decide_eq_false_iff_not]; omega
  have hp : 0 < t.size := by omega
  by_cases h3 : t[0].toNat = 47
  case neg =>
    have q3 : ((t[0].toNat : Int) != 47) = true := by rw [bne_iff_ne]; omega
    have H3 : Hid (¬ t[0].toNat = 47) := h3
    clear h3
    go_enter Tryd.func61, Tryd.ntmps61
    go_wp2
    go_ret
    exact ⟨ret_bool (pathB_first hp H3.out).symm, rfl⟩
  have q3 : ((t[0].toNat : Int) != 47) = false := by rw [bne_eq_false_iff_eq]; omega
  have H3 : Hid (t[0].toNat = 47) := h3
  clear h3
  go_enter Tryd.func61, Tryd.ntmps61
  go_wp2
  go_loop [3] (fun i => ∃ k : Nat, k ≤ t.size ∧ i = .int .i64 k ∧ Hid (∀ i (h : i < t.size), i < k → pathC t[i].toNat = true)) (fun i => t.size - (intOf i).toNat)
  case atStart => exact ⟨0, Nat.zero_le _, rfl, fun i _ hi => absurd hi (by omega)⟩
  case round =>
    obtain ⟨k, hk, rfl, HR⟩ := hrel
    by_cases hlt : k < t.size
    · by_cases d1 : t[k].toNat < 33
      · go_wp2
        go_ret
        exact ⟨ret_bool (pathB_at k hlt (pathC_no (by omega))).symm, rfl⟩
      have b1 : decide ((t[k].toNat : Int) < 33) = false := by rw [decide_eq_false_iff_not]; omega
      by_cases d2 : 126 < t[k].toNat
      · go_wp2
        go_ret
        exact ⟨ret_bool (pathB_at k hlt (pathC_no (by omega))).symm, rfl⟩
      have b2 : decide ((126 : Int) < (t[k].toNat : Int)) = false := by rw [decide_eq_false_iff_not]; omega
      by_cases d3 : t[k].toNat = 63
      · have b3 : ((t[k].toNat : Int) == 63) = true := by rw [beq_iff_eq]; omega
        have D3 : Hid (t[k].toNat = 63) := d3
        clear d3
        go_wp2
        go_ret
        exact ⟨ret_bool (pathB_at k hlt (pathC_no (by have := D3.out; omega))).symm, rfl⟩
      have b3 : ((t[k].toNat : Int) == 63) = false := by rw [beq_eq_false_iff_ne]; omega
      by_cases d4 : t[k].toNat = 35
      · have b4 : ((t[k].toNat : Int) == 35) = true := by rw [beq_iff_eq]; omega
        have D4 : Hid (t[k].toNat = 35) := d4
        clear d4
        go_wp2
        go_ret
        exact ⟨ret_bool (pathB_at k hlt (pathC_no (by have := D4.out; omega))).symm, rfl⟩
      have b4 : ((t[k].toNat : Int) == 35) = false := by rw [beq_eq_false_iff_ne]; omega
      by_cases d5 : t[k].toNat = 59
      · have b5 : ((t[k].toNat : Int) == 59) = true := by rw [beq_iff_eq]; omega
        have D5 : Hid (t[k].toNat = 59) := d5
        clear d5
        go_wp2
        go_ret
        exact ⟨ret_bool (pathB_at k hlt (pathC_no (by have := D5.out; omega))).symm, rfl⟩
      have b5 : ((t[k].toNat : Int) == 59) = false := by rw [beq_eq_false_iff_ne]; omega
      have HC : Hid (pathC t[k].toNat = true) := pathC_yes (by omega)
      clear d3 d4 d5
      go_wp2
      go_round
      case rel => exact ⟨k + 1, by omega, by go_num, all_succ HR.out hlt HC.out⟩
      case measure => simp [intOf]; omega
    · go_wp2
      go_ret
      exact ⟨ret_bool (pathB_true (by omega) (by omega) (fun _ => H3.out) (fun i h => HR.out i h (by omega))).symm, rfl⟩
end Go.Proofs.YtmlacbjlafdenahDoor

/- The walks of the specification's l01Split and HostRight. -/
namespace Go.Proofs.YtmlacbjlafdenahDoor
open Go.RowKit

theorem infoStr : (Tryd.prog.info? 9).map (fun i => (i.zero, i.size, i.bytes)) = some (some (.string ⟨#[]⟩), 1, 16) := by kernel_rfl
/-- the cells of texts -/
def strCells (L : List ByteArray) : List Value := L.map Value.string
theorem strCells_snoc (L : List ByteArray) (x : ByteArray) : strCells L ++ [.string x] = strCells (L ++ [x]) := by simp [strCells]

set_option maxRecDepth 10000 in
set_option maxHeartbeats 400000 in
theorem split_any (s : ByteArray) (c : Nat) (w : World) (hs : s.size ≤ 1048576) :
    Calls Tryd.prog 28 #[.string s, .int .u8 c] w fun e w' => ∃ v, e = .returned v ∧ w'.ownsRow w.heap.size 9 1 v (splitB s c).length (strCells (splitB s c)) ∧ Below w.heap.size w w' := by
  obtain ⟨i0, hi, hz0, hz1, hz2⟩ := info_parts infoStr
  go_enter Tryd.func28, Tryd.ntmps28
  go_wp2
  go_loopw [5, 6, 7] (fun v f i wr => ∃ k : Nat, k ≤ s.size ∧ i = .int .i64 k ∧ f = .int .i64 ((splitTo s c k).2 : Nat) ∧ wr.ownsRow w.heap.size 9 1 v (splitTo s c k).1.length (strCells (splitTo s c k).1) ∧ Below w.heap.size w wr) (fun _ _ i _ => s.size - (intOf i).toNat)
  case atStart => exact ⟨0, Nat.zero_le _, rfl, rfl, World.ownsRow_made w #[] 0 (Nat.le_refl _) (Nat.zero_le _) rfl, (Below.refl _ _).alloc (Nat.le_refl _) _⟩
  case round =>
    obtain ⟨k, hk, rfl, rfl, hown, hb⟩ := hrel
    have hle := splitTo_le s c k
    have hbs := hb.size
    by_cases hlt : k < s.size
    · by_cases hit : s[k].toNat = c
      · have HS : Hid (splitTo s c (k + 1) = ((splitTo s c k).1 ++ [s.extract (splitTo s c k).2 k], k + 1)) := splitTo_hit hlt hit
        have q : ((s[k].toNat : Int) == (c : Int)) = true := by rw [beq_iff_eq]; omega
        clear hit
        generalize splitTo s c k = r at *
        obtain ⟨L, f⟩ := r
        have hown2 : wr.ownsRow w.heap.size 9 1 u5 L.length (strCells L) := hown
        have hf1 : f ≤ k := hle.1
        have hf2 : L.length ≤ k := hle.2
        clear hown hle
        go_wp2_with (at_builtin; go_must (refine wpList_append_own _ rfl _ _ 22 rfl w.heap.size 9 i0 (.string ⟨#[]⟩) 1 16 Tryd.underlying22 hi hz0 hz1 hz2 rfl (by decide) _ _ _ rfl (hown2.alloc _) ⟨wr.heap.size, 0, none⟩ 1 1 [.string (s.extract f k)] rfl rfl (cell_one_new _ _ _) (by intro u hu; simp at hu; subst hu; rfl) (by unfold maxLen; omega) (by omega) (by simp; omega) ?_))
        intro v' w2 hown3 hgrow _
        rw [strCells_snoc] at hown3
        have hb2 : Below w.heap.size w w2 := (hb.alloc hbs _).grown hgrow (by simp; omega) (fun j hj => (hown2.lt j hj).1)
        clear hown2 hgrow hb
        go_wp2
        go_roundw
        case rel => exact ⟨k + 1, by omega, by go_num, by rw [HS.out]; go_num, by rw [HS.out]; simpa using hown3, hb2⟩
        case measure => simp [intOf]; omega
      · have HS : Hid (splitTo s c (k + 1) = splitTo s c k) := splitTo_miss hlt hit
        have q : ((s[k].toNat : Int) == (c : Int)) = false := by rw [beq_eq_false_iff_ne]; omega
        clear hit
        generalize splitTo s c k = r at *
        obtain ⟨L, f⟩ := r
        have hown2 : wr.ownsRow w.heap.size 9 1 u5 L.length (strCells L) := hown
        clear hown hle
        go_wp2
        go_roundw
        case rel => exact ⟨k + 1, by omega, by go_num, by rw [HS.out], by rw [HS.out]; exact hown2, hb⟩
        case measure => simp [intOf]; omega
    · obtain rfl : k = s.size := by omega
      have HS : Hid (splitB s c = (splitTo s c s.size).1 ++ [s.extract (splitTo s c s.size).2 s.size]) := rfl
      generalize splitTo s c s.size = r at *
      obtain ⟨L, f⟩ := r
      have hown2 : wr.ownsRow w.heap.size 9 1 u5 L.length (strCells L) := hown
      have hf1 : f ≤ s.size := hle.1
      have hf2 : L.length ≤ s.size := hle.2
      clear hown hle
      go_wp2_with (at_builtin; go_must (refine wpList_append_own _ rfl _ _ 22 rfl w.heap.size 9 i0 (.string ⟨#[]⟩) 1 16 Tryd.underlying22 hi hz0 hz1 hz2 rfl (by decide) _ _ _ rfl (hown2.alloc _) ⟨wr.heap.size, 0, none⟩ 1 1 [.string (s.extract f s.size)] rfl rfl (cell_one_new _ _ _) (by intro u hu; simp at hu; subst hu; rfl) (by unfold maxLen; omega) (by omega) (by simp; omega) ?_))
      intro v' w2 hown3 hgrow _
      rw [strCells_snoc] at hown3
      have hb2 : Below w.heap.size w w2 := (hb.alloc hbs _).grown hgrow (by simp; omega) (fun j hj => (hown2.lt j hj).1)
      clear hown2 hgrow hb
      go_wp2
      go_ret
      exact ⟨_, rfl, by rw [HS.out]; simpa using hown3, hb2⟩

theorem splitB_ne (s : ByteArray) (c : Nat) : ∃ n, (splitB s c).length = n + 1 := ⟨(splitTo s c s.size).1.length, by simp [splitB]⟩

set_option maxRecDepth 10000 in
set_option maxHeartbeats 400000 in
theorem specHost_any (s : ByteArray) (w : World) :
    Calls Tryd.prog 35 #[.string s] w fun e w' => e = .returned (.bool (hostB s)) ∧ Below w.heap.size w w' := by
  by_cases h1 : 100 < s.size
  · go_enter Tryd.func35, Tryd.ntmps35
    go_wp2
    go_ret
    exact ⟨ret_bool (hostB_size h1).symm, Below.refl _ _⟩
  have HA : Hid ((∀ k (h : k < (splitB s 46).length), labelB ((splitB s 46)[k]) = false → hostB s = false) ∧ ((∀ k (h : k < (splitB s 46).length), labelB ((splitB s 46)[k]) = true) → hostB s = decide ((splitB s 46).length ≤ 6))) :=
    ⟨fun k h hl => hostB_at k h hl, fun h => hostB_all (by omega) h⟩
  have hn := splitB_len s 46
  obtain ⟨n, hn1⟩ := splitB_ne s 46
  have HC : Hid (∀ W, Calls Tryd.prog 28 #[.string s, .int .u8 46] W fun e w' => ∃ v, e = .returned v ∧ w'.ownsRow W.heap.size 9 1 v (splitB s 46).length (strCells (splitB s 46)) ∧ Below W.heap.size W w') := fun W => split_any s 46 W (by omega)
  generalize splitB s 46 = L at *
  go_enter Tryd.func35, Tryd.ntmps35
  go_wp2_with fail
  refine (HC.out _).mono ?_
  rintro e w1 ⟨v, rfl, hown, hb⟩
  rw [hn1] at hown
  obtain ⟨g, cap, rfl⟩ := own_shape hown
  have hL : n + 1 ≤ 101 := by omega
  have hcell : ∀ k (h : k < L.length), w1.cell? ⟨g, k, none⟩ = some (.string L[k]) := by
    intro k hk
    rw [hown.cellAt k (by omega)]
    simp [strCells, hk]
  have HN : Hid (L.length = n + 1) := hn1
  clear hn1 hn hown
  go_wp2
  go_loop [4] (fun i => ∃ k : Nat, k ≤ n + 1 ∧ i = .int .i64 k ∧ Hid (∀ j (h : j < L.length), j < k → labelB L[j] = true)) (fun i => n + 1 - (intOf i).toNat)
  case atStart => exact ⟨0, by omega, rfl, fun j _ hj => absurd hj (by omega)⟩
  case round =>
    obtain ⟨k, hk, rfl, HR⟩ := hrel
    by_cases hlt : k < n + 1
    · have hkl : k < L.length := by rw [HN.out]; exact hlt
      have hck := hcell k hkl
      cases hlab : labelB L[k] with
      | true =>
        have HC2 : Hid (∀ W, Calls Tryd.prog 51 #[.string L[k]] W fun e w' => e = .returned (.bool true) ∧ w' = W) := fun W => by rw [← hlab]; exact specLabel_any L[k] W
        have HL : Hid (labelB L[k] = true) := hlab
        clear hlab hcell
        generalize hx : L[k] = x at *
        have HX : Hid (L[k] = x) := hx
        clear hx
        go_wp2_with (go_at_call 51; refine (HC2.out _).mono ?_; rintro e w2 ⟨rfl, rfl⟩)
        go_round
        case rel =>
          refine ⟨k + 1, by omega, by go_num, ?_⟩
          intro j hj hjk
          by_cases e : j = k
          · subst e; rw [HX.out]; exact HL.out
          · exact HR.out j hj (by omega)
        case measure => simp [intOf]; omega
      | false =>
        have HC2 : Hid (∀ W, Calls Tryd.prog 51 #[.string L[k]] W fun e w' => e = .returned (.bool false) ∧ w' = W) := fun W => by rw [← hlab]; exact specLabel_any L[k] W
        have HF : Hid (hostB s = false) := HA.out.1 k hkl hlab
        clear hlab hcell
        generalize L[k] = x at *
        go_wp2_with (go_at_call 51; refine (HC2.out _).mono ?_; rintro e w2 ⟨rfl, rfl⟩)
        go_ret
        exact ⟨ret_bool HF.out.symm, hb⟩
    · have HF : Hid (hostB s = decide (((n + 1 : Nat) : Int) ≤ 6)) := by
        show _ = _
        rw [HA.out.2 (fun j hj => HR.out j hj (by have := HN.out; omega)), HN.out]
        congr 1
        exact propext ⟨fun h => by omega, fun h => by omega⟩
      clear hcell
      go_wp2
      go_ret
      exact ⟨ret_bool (by rw [HF.out]; simp), hb⟩
end Go.Proofs.YtmlacbjlafdenahDoor

/- A row of texts that a call owns, as a slice of texts. -/
namespace Go.Proofs.YtmlacbjlafdenahDoor
open Go.RowKit

def atL (L : List ByteArray) (j : Nat) : ByteArray := L.getD j ⟨#[]⟩
theorem slice_of_own {w : World} {B : Nat} {t : TypeId} {v : Value} {L : List ByteArray} (h : w.ownsRow B t 1 v L.length (strCells L)) : SliceS w B v L.length (atL L) := by
  obtain ⟨h1, ⟨rfl, h0⟩ | ⟨g, cap, cur, rfl, hg, h3, h4, h5, h6, h7⟩⟩ := h
  · exact ⟨none, 0, by rw [h0], fun h => absurd h (by omega)⟩
  · refine ⟨_, cap, rfl, fun hn => ⟨g, rfl, hg, ?_, fun j hj => ?_⟩⟩
    · exact (Array.getElem?_eq_some_iff.mp h3).1
    · have e : cur[j]? = some (.string (atL L j)) := by
        have e1 : (cur.toList.take (L.length * 1))[j]? = (strCells L)[j]? := by rw [h7]
        rw [List.getElem?_take_of_lt (by omega)] at e1
        rw [← Array.getElem?_toList, e1]
        simp [strCells, atL, hj]
      refine ⟨?_, ?_⟩
      · simp [World.cell?, h3, e]
      · simp [World.frozen?, h3]
end Go.Proofs.YtmlacbjlafdenahDoor

/- Texts put in their places, one by one, are the texts sorted and each kept once. -/
namespace Go.Proofs.YtmlacbjlafdenahDoor
/-- the model's order of texts is that of their bytes -/
theorem less_iff : ∀ (x y : List UInt8), Op.bytesLess x y = true ↔ x < y
  | [], [] => by simp [Op.bytesLess]
  | _ :: _, [] => by simp [Op.bytesLess]
  | [], _ :: _ => by simp [Op.bytesLess]
  | a :: x, b :: y => by
    rw [Op.bytesLess, List.cons_lt_cons_iff, Bool.or_eq_true, Bool.and_eq_true, less_iff x y, decide_eq_true_eq, beq_iff_eq]
theorem lt_tri (x y : List UInt8) : x < y ∨ x = y ∨ y < x := by
  by_cases h : x < y
  · exact .inl h
  · by_cases h2 : y < x
    · exact .inr (.inr h2)
    · exact .inr (.inl (List.le_antisymm (List.not_lt.1 h2) (List.not_lt.1 h)))
/-- rising, none twice -/
def Rising (L : List (List UInt8)) : Prop := L.Pairwise (· < ·)
theorem rising_eq : ∀ {A B : List (List UInt8)}, Rising A → Rising B → (∀ x, x ∈ A ↔ x ∈ B) → A = B
  | [], [], _, _, _ => rfl
  | [], b :: B, _, _, h => absurd ((h b).2 (by simp)) (by simp)
  | a :: A, [], _, _, h => absurd ((h a).1 (by simp)) (by simp)
  | a :: A, b :: B, ha, hb, h => by
    obtain ⟨ha1, ha2⟩ := List.pairwise_cons.1 ha
    obtain ⟨hb1, hb2⟩ := List.pairwise_cons.1 hb
    have e : a = b := by
      rcases lt_tri a b with c | c | c
      · rcases List.mem_cons.1 ((h a).1 (by simp)) with e | e
        · exact e
        · exact absurd (List.lt_trans (hb1 a e) c) (List.lt_irrefl b)
      · exact c
      · rcases List.mem_cons.1 ((h b).2 (by simp)) with e | e
        · exact e.symm
        · exact absurd (List.lt_trans (ha1 b e) c) (List.lt_irrefl a)
    subst e
    congr 1
    refine rising_eq ha2 hb2 fun x => ?_
    have hx := h x
    rw [List.mem_cons, List.mem_cons] at hx
    constructor
    · intro hm
      rcases hx.1 (.inr hm) with e | e
      · subst e; exact absurd (ha1 x hm) (List.lt_irrefl x)
      · exact e
    · intro hm
      rcases hx.2 (.inr hm) with e | e
      · subst e; exact absurd (hb1 x hm) (List.lt_irrefl x)
      · exact e
/-- a text put among others, in its place -/
def putT : List (List UInt8) → List UInt8 → List (List UInt8)
  | [], t => [t]
  | x :: l, t => if x < t then x :: putT l t else if x = t then x :: l else t :: x :: l
theorem putT_mem (t x : List UInt8) : ∀ L : List (List UInt8), x ∈ putT L t ↔ x ∈ L ∨ x = t
  | [] => by simp [putT]
  | y :: l => by
    rw [putT]
    split
    · rw [List.mem_cons, putT_mem t x l, List.mem_cons]
      constructor
      · rintro (h | h | h) <;> simp [h]
      · rintro ((h | h) | h) <;> simp [h]
    · split
      · rename_i e; subst e; simp
        intro h; exact .inl h
      · simp only [List.mem_cons]
        constructor
        · rintro (h | h) <;> simp [h]
        · rintro (h | h) <;> simp [h]
theorem putT_rising (t : List UInt8) : ∀ {L : List (List UInt8)}, Rising L → Rising (putT L t)
  | [], _ => by simp [putT, Rising]
  | y :: l, h => by
    obtain ⟨h1, h2⟩ := List.pairwise_cons.1 h
    rw [putT]
    split
    · rename_i hlt
      refine List.pairwise_cons.2 ⟨fun z hz => ?_, putT_rising t h2⟩
      rcases (putT_mem t z l).1 hz with e | e
      · exact h1 z e
      · rw [e]; exact hlt
    · rename_i hlt
      split
      · exact h
      · rename_i hne
        have hty : t < y := by
          rcases lt_tri t y with c | c | c
          · exact c
          · exact absurd c.symm hne
          · exact absurd c hlt
        refine List.pairwise_cons.2 ⟨fun z hz => ?_, h⟩
        rcases List.mem_cons.1 hz with e | e
        · rw [e]; exact hty
        · exact List.lt_trans hty (h1 z e)
theorem puts_rising : ∀ (K : List (List UInt8)) {L : List (List UInt8)}, Rising L → Rising (K.foldl putT L)
  | [], _, h => h
  | t :: K, _, h => puts_rising K (putT_rising t h)
theorem puts_mem (x : List UInt8) : ∀ (K L : List (List UInt8)), x ∈ K.foldl putT L ↔ x ∈ L ∨ x ∈ K
  | [], L => by simp
  | t :: K, L => by
    rw [List.foldl_cons, puts_mem x K, putT_mem, List.mem_cons]
    constructor
    · rintro ((h | h) | h) <;> simp [h]
    · rintro (h | h | h) <;> simp [h]
/-- where a text is put, and how -/
theorem putT_at (t : List UInt8) : ∀ (L : List (List UInt8)) (k : Nat), k ≤ L.length → (∀ j (h : j < L.length), j < k → L[j] < t) → (∀ h : k < L.length, ¬ L[k] < t) →
    putT L t = if ∃ h : k < L.length, L[k] = t then L else L.take k ++ t :: L.drop k
  | [], k, hk, _, _ => by
    obtain rfl : k = 0 := by simpa using hk
    rw [if_neg (by rintro ⟨h, _⟩; exact absurd h (by simp))]
    rfl
  | x :: l, 0, hk, _, h2 => by
    have hx : ¬ x < t := h2 (by simp)
    rw [putT, if_neg hx]
    by_cases e : x = t
    · rw [if_pos e, if_pos ⟨by simp, e⟩]
    · rw [if_neg e, if_neg (by rintro ⟨_, h⟩; exact e h)]; rfl
  | x :: l, k + 1, hk, h1, h2 => by
    have hx : x < t := h1 0 (by simp) (by omega)
    rw [putT, if_pos hx, putT_at t l k (by simpa using hk) (fun j h hj => h1 (j + 1) (by simpa using h) (by omega)) (fun h => h2 (by simpa using h))]
    by_cases e : ∃ h : k < l.length, l[k] = t
    · rw [if_pos e, if_pos (by obtain ⟨h, e⟩ := e; exact ⟨by simpa using h, e⟩)]
    · rw [if_neg e, if_neg (by rintro ⟨h, e2⟩; exact e ⟨by simpa using h, e2⟩)]; rfl
theorem le_lt {a b c : List UInt8} (h : ¬ b < a) (h2 : b < c) : a < c := by
  rcases lt_tri a b with e | e | e
  · exact List.lt_trans e h2
  · rw [e]; exact h2
  · exact absurd e h
/-- what stays of rising texts is rising, none twice, and they are the same -/
theorem compact_upto (d : Array (List UInt8)) (hd : ∀ j, j + 1 < d.size → ¬ d[j + 1]! < d[j]!) : ∀ m, m ≤ d.size →
    Rising (Lib.compactUpTo d m) ∧ (∀ x, x ∈ Lib.compactUpTo d m ↔ ∃ j, j < m ∧ d[j]! = x) ∧ (∀ x, x ∈ Lib.compactUpTo d m → ¬ d[m - 1]! < x)
  | 0, _ => by simp [Lib.compactUpTo, Rising]
  | m + 1, hm => by
    obtain ⟨h1, h2, h3⟩ := compact_upto d hd m (by omega)
    rw [Lib.compactUpTo_succ]
    by_cases hk : Lib.keeps d m = true
    · rw [if_pos hk]
      have hlt : ∀ x, x ∈ Lib.compactUpTo d m → x < d[m]! := by
        intro x hx
        obtain ⟨j, hj, -⟩ := (h2 x).1 hx
        have hm0 : ¬ m = 0 := by omega
        have hne : d[m]! ≠ d[m - 1]! := by
          have := hk
          unfold Lib.keeps at this
          rw [decide_eq_true_eq] at this
          exact this.resolve_left hm0
        have hle := hd (m - 1) (by omega)
        rw [show m - 1 + 1 = m by omega] at hle
        refine le_lt (h3 x hx) ?_
        rcases lt_tri d[m - 1]! d[m]! with e | e | e
        · exact e
        · exact absurd e.symm hne
        · exact absurd e hle
      refine ⟨?_, fun x => ?_, fun x hx => ?_⟩
      · unfold Rising
        rw [List.pairwise_append]
        refine ⟨h1, by simp, fun a ha b hb => ?_⟩
        rw [List.mem_singleton] at hb
        rw [hb]; exact hlt a ha
      · rw [List.mem_append, h2, List.mem_singleton]
        constructor
        · rintro (⟨j, hj, e⟩ | e)
          · exact ⟨j, by omega, e⟩
          · exact ⟨m, by omega, e.symm⟩
        · rintro ⟨j, hj, e⟩
          by_cases hjm : j = m
          · subst hjm; exact .inr e.symm
          · exact .inl ⟨j, by omega, e⟩
      · rw [List.mem_append, List.mem_singleton] at hx
        rw [Nat.add_sub_cancel]
        rcases hx with hx | hx
        · exact fun h => List.lt_irrefl x (List.lt_trans (hlt x hx) h)
        · rw [hx]; exact List.lt_irrefl _
    · rw [if_neg hk, List.append_nil]
      have hm0 : ¬ m = 0 := fun e => hk (by subst e; simp [Lib.keeps])
      have he : d[m]! = d[m - 1]! := by
        by_cases e : d[m]! = d[m - 1]!
        · exact e
        · exact absurd (Lib.keeps_pos e) hk
      refine ⟨h1, fun x => ?_, fun x hx => ?_⟩
      · rw [h2]
        constructor
        · rintro ⟨j, hj, e⟩; exact ⟨j, by omega, e⟩
        · rintro ⟨j, hj, e⟩
          by_cases hjm : j = m
          · subst hjm; exact ⟨j - 1, by omega, by rw [← e, he]⟩
          · exact ⟨j, by omega, e⟩
      · rw [Nat.add_sub_cancel, he]; exact h3 x hx
theorem compact_sorted (zs : List (List UInt8)) (h : zs.Pairwise (fun a b => ¬ b < a)) : Rising (Lib.compact zs) ∧ ∀ x, x ∈ Lib.compact zs ↔ x ∈ zs := by
  have hd : ∀ j, j + 1 < zs.toArray.size → ¬ zs.toArray[j + 1]! < zs.toArray[j]! := by
    intro j hj
    have hj2 : j + 1 < zs.length := by simpa using hj
    have := List.pairwise_iff_getElem.1 h j (j + 1) (by omega) hj2 (by omega)
    simpa [getElem!_pos, hj2, show j < zs.length by omega] using this
  obtain ⟨h1, h2, _⟩ := compact_upto zs.toArray hd zs.length (by simp)
  refine ⟨h1, fun x => ?_⟩
  unfold Lib.compact
  rw [h2]
  constructor
  · rintro ⟨j, hj, e⟩
    rw [← e]
    simp [getElem!_pos, hj]
  · intro hx
    obtain ⟨j, hj, e⟩ := List.getElem_of_mem hx
    exact ⟨j, hj, by simp [getElem!_pos, hj, e]⟩
/-- texts sorted and each kept once are those put one by one -/
theorem sorted_puts (K : List (List UInt8)) : Lib.compact (K.mergeSort fun x y => decide (x ≤ y)) = K.foldl putT [] := by
  have hp : (K.mergeSort fun x y => decide (x ≤ y)).Pairwise (fun a b => ¬ b < a) := by
    have := List.pairwise_mergeSort (le := fun x y : List UInt8 => decide (x ≤ y)) (fun a b c h1 h2 => by
      rw [decide_eq_true_eq] at *; exact List.le_trans h1 h2) (fun a b => by
      rw [Bool.or_eq_true, decide_eq_true_eq, decide_eq_true_eq]; exact List.le_total a b) K
    refine this.imp ?_
    intro a b h
    rw [decide_eq_true_eq] at h
    exact List.not_lt.2 h
  obtain ⟨h1, h2⟩ := compact_sorted _ hp
  refine rising_eq h1 (puts_rising K (by simp [Rising])) fun x => ?_
  rw [h2, puts_mem, (List.mergeSort_perm K _).mem_iff]
  simp
end Go.Proofs.YtmlacbjlafdenahDoor

/- What the library's Split cuts a text into at a byte is splitB's list. -/
namespace Go.Proofs.YtmlacbjlafdenahDoor
theorem first_split {c : UInt8} : ∀ {l : List UInt8}, c ∈ l → ∃ A B, l = A ++ c :: B ∧ ∀ x ∈ A, x ≠ c
  | [], h => by cases h
  | b :: l, h => by
    by_cases e : b = c
    · exact ⟨[], l, by rw [e]; rfl, fun x hx => by cases hx⟩
    · obtain ⟨A, B, rfl, hA⟩ := first_split (l := l) (by cases h with | head => exact absurd rfl e | tail _ h => exact h)
      refine ⟨b :: A, B, rfl, ?_⟩
      intro x hx
      cases hx with
      | head => exact e
      | tail _ hx => exact hA x hx
/-- a list of bytes cut at a byte -/
def cutL (c : UInt8) : List UInt8 → List (List UInt8)
  | [] => [[]]
  | b :: l => if b = c then [] :: cutL c l else match cutL c l with
    | [] => [[b]]
    | p :: r => (b :: p) :: r
theorem cutL_none (c : UInt8) : ∀ A : List UInt8, (∀ x ∈ A, x ≠ c) → cutL c A = [A]
  | [], _ => rfl
  | b :: A, h => by
    rw [cutL, if_neg (h b (by simp)), cutL_none c A (fun x hx => h x (by simp [hx]))]
theorem cutL_app (c : UInt8) (B : List UInt8) : ∀ A : List UInt8, (∀ x ∈ A, x ≠ c) → cutL c (A ++ c :: B) = A :: cutL c B
  | [], _ => by rw [List.nil_append, cutL, if_pos rfl]
  | b :: A, h => by
    rw [List.cons_append, cutL, if_neg (h b (by simp)), cutL_app c B A (fun x hx => h x (by simp [hx]))]
theorem index_one (c : UInt8) (A B : List UInt8) (h : ∀ x ∈ A, x ≠ c) : Lib.index (A ++ c :: B) [c] = A.length := by
  refine Lib.index_first (by simp) ?_ ?_
  · simp [Lib.occAt]
  · intro j hj
    rw [← Bool.not_eq_true]
    intro ho
    have e := Lib.occAt_head rfl ho
    rw [List.getElem?_append_left hj] at e
    exact h c (List.mem_of_getElem? e) rfl
theorem splitK_cutL (c : UInt8) : ∀ (k : Nat) (l : List UInt8), l.count c = k → Lib.splitK [c] 0 k l = cutL c l
  | 0, l, h => by
    rw [cutL_none c l (fun x hx e => by subst e; exact absurd (List.count_pos_iff.2 hx) (by omega))]
    rfl
  | k + 1, l, h => by
    obtain ⟨A, B, rfl, hA⟩ := first_split (List.count_pos_iff.1 (show 0 < l.count c by omega))
    have hi := index_one c A B hA
    have h0 : A.count c = 0 := List.count_eq_zero.2 (fun hx => hA c hx rfl)
    have hB : B.count c = k := by
      rw [List.count_append, List.count_cons_self, h0] at h; omega
    rw [Lib.splitK, if_neg (by rw [hi, beq_iff_eq]; omega), hi, cutL_app c B A hA]
    congr 1
    · simp
    · rw [← splitK_cutL c k B hB]
      congr 1
      rw [show ((A.length : Int)).toNat + [c].length = A.length + 1 by simp, ← List.drop_drop, List.drop_left]
      rfl
theorem extract_list (s : ByteArray) (a b : Nat) : (s.extract a b).data.toList = (s.data.toList.drop a).take (b - a) := by
  simp
theorem byte_list {s : ByteArray} {i : Nat} (h : i < s.size) : s.data.toList[i]'(by simpa using h) = s[i] := by simp; rfl
theorem splitTo_cut (s : ByteArray) (c : UInt8) : ∀ i, i ≤ s.size →
    cutL c s.data.toList = (splitTo s c.toNat i).1.map (·.data.toList) ++ cutL c (s.data.toList.drop (splitTo s c.toNat i).2) ∧
      ∀ j (h : j < s.size), (splitTo s c.toNat i).2 ≤ j → j < i → s[j] ≠ c
  | 0, _ => ⟨by simp [splitTo], fun j _ _ h => by omega⟩
  | i + 1, hi => by
    obtain ⟨e, hn⟩ := splitTo_cut s c i (by omega)
    have hlt : i < s.size := by omega
    have hle := (splitTo_le s c.toNat i).1
    by_cases hc : s[i].toNat = c.toNat
    · rw [splitTo_hit hlt hc]
      refine ⟨?_, fun j _ h1 h2 => by simp at h1; omega⟩
      rw [e]
      generalize (splitTo s c.toNat i).2 = f at *
      have hl : i < s.data.toList.length := by simpa using hlt
      have hd : s.data.toList.drop f = ((s.data.toList.drop f).take (i - f)) ++ c :: s.data.toList.drop (i + 1) := by
        have hci : s.data.toList[i] = c := by rw [byte_list hlt]; exact UInt8.toNat_inj.1 hc
        conv => lhs; rw [← List.take_append_drop (i - f) (s.data.toList.drop f)]
        congr 1
        rw [List.drop_drop, show f + (i - f) = i by omega, List.drop_eq_getElem_cons hl, hci]
      have hA : ∀ x ∈ (s.data.toList.drop f).take (i - f), x ≠ c := by
        intro x hx
        obtain ⟨k, hk, rfl⟩ := List.getElem_of_mem hx
        have hk2 : k < i - f := by rw [List.length_take] at hk; omega
        rw [List.getElem_take, List.getElem_drop]
        have := hn (f + k) (by omega) (by omega) (by omega)
        rw [← byte_list (by omega)] at this
        exact this
      conv => lhs; rw [hd, cutL_app c _ _ hA]
      simp
    · rw [splitTo_miss hlt hc]
      refine ⟨e, fun j h h1 h2 => ?_⟩
      by_cases hj : j = i
      · subst hj; exact fun e => hc (by rw [e])
      · exact hn j h h1 (by omega)
theorem splitB_cut (s : ByteArray) (c : UInt8) : (splitB s c.toNat).map (·.data.toList) = cutL c s.data.toList := by
  obtain ⟨e, hn⟩ := splitTo_cut s c s.size (Nat.le_refl _)
  have hle := (splitTo_le s c.toNat s.size).1
  unfold splitB
  rw [e]
  generalize (splitTo s c.toNat s.size).2 = f at *
  rw [cutL_none c (s.data.toList.drop f)]
  · rw [List.map_append]; congr 1
    simp only [List.map_cons, List.map_nil, extract_list]
    rw [List.take_of_length_le (by simp)]
  · intro x hx
    obtain ⟨k, hk, rfl⟩ := List.getElem_of_mem hx
    rw [List.getElem_drop]
    have hk2 : f + k < s.size := by rw [List.length_drop] at hk; simp at hk; omega
    have := hn (f + k) hk2 (by omega) hk2
    rw [← byte_list hk2] at this
    exact this
theorem datas_inj : ∀ {A B : List ByteArray}, A.map (·.data.toList) = B.map (·.data.toList) → A = B
  | [], [], _ => rfl
  | [], b :: B, h => by cases h
  | a :: A, [], h => by cases h
  | a :: A, b :: B, h => by
    simp only [List.map_cons, List.cons.injEq] at h
    obtain ⟨h1, h2⟩ := h
    rw [datas_inj h2]
    congr 1
    cases a; cases b
    congr 1
    exact Array.toList_inj.1 h1
theorem lib_split (s : ByteArray) (c : UInt8) : Lib.splitB ⟨#[c]⟩ 0 (Lib.countB s ⟨#[c]⟩) s = splitB s c.toNat := by
  apply datas_inj
  rw [Lib.splitB_data, splitB_cut]
  exact splitK_cutL c _ _ (Lib.count_one c s.data.toList).symm
theorem lib_count (s : ByteArray) (c : UInt8) : Lib.countB s ⟨#[c]⟩ + 1 = (splitB s c.toNat).length := by
  rw [← lib_split, Lib.splitB_all ⟨#[c]⟩ (Nat.le_refl 1) 0 _ s rfl]
end Go.Proofs.YtmlacbjlafdenahDoor

/- The walk of the specification's l03Put. -/
namespace Go.Proofs.YtmlacbjlafdenahDoor
open Go.RowKit

/-- a text put among others, in its place -/
def putL (L : List ByteArray) (t : ByteArray) : List ByteArray := (putT (L.map (·.data.toList)) t.data.toList).map (fun l => ⟨l.toArray⟩)
theorem data_back (L : List (List UInt8)) : (L.map (fun l => (⟨l.toArray⟩ : ByteArray))).map (·.data.toList) = L := by
  rw [List.map_map]
  conv => rhs; rw [← List.map_id L]
  apply List.map_congr_left
  intro l _
  simp
theorem back_data (L : List ByteArray) : (L.map (·.data.toList)).map (fun l => (⟨l.toArray⟩ : ByteArray)) = L := by
  apply datas_inj
  rw [data_back]
theorem putL_data (L : List ByteArray) (t : ByteArray) : (putL L t).map (·.data.toList) = putT (L.map (·.data.toList)) t.data.toList := data_back _
theorem less_data (a b : ByteArray) : Op.bytesLess a.toList b.toList = true ↔ a.data.toList < b.data.toList := by rw [less_iff, Lib.toList_data, Lib.toList_data]
theorem same_data (a b : ByteArray) : (a.toList == b.toList) = true ↔ a.data.toList = b.data.toList := by rw [beq_iff_eq, Lib.toList_data, Lib.toList_data]
theorem putL_at {L : List ByteArray} {t : ByteArray} {k : Nat} (hk : k ≤ L.length) (h1 : ∀ j, j < k → Op.bytesLess (atL L j).toList t.toList = true) (h2 : k < L.length → Op.bytesLess (atL L k).toList t.toList = false) :
    ((k < L.length ∧ ((atL L k).toList == t.toList) = true) → putL L t = L) ∧ (¬ (k < L.length ∧ ((atL L k).toList == t.toList) = true) → putL L t = L.take k ++ t :: L.drop k) := by
  have e := putT_at t.data.toList (L.map (·.data.toList)) k (by simpa using hk)
    (fun j hj hjk => by
      have := h1 j hjk
      rw [less_data] at this
      have hl : j < L.length := by simpa using hj
      have e2 : atL L j = L[j] := by simp [atL, hl]
      rw [e2] at this
      simpa using this)
    (fun h hlt => by
      have hl : k < L.length := by simpa using h
      have := h2 hl
      have e2 : atL L k = L[k] := by simp [atL, hl]
      rw [e2, (less_data _ _).2 (by simpa using hlt)] at this
      cases this)
  have ec : (∃ h : k < (L.map (·.data.toList)).length, (L.map (·.data.toList))[k] = t.data.toList) ↔ (k < L.length ∧ ((atL L k).toList == t.toList) = true) := by
    constructor
    · rintro ⟨h, e1⟩
      have hl : k < L.length := by simpa using h
      have e2 : atL L k = L[k] := by simp [atL, hl]
      exact ⟨hl, by rw [e2, same_data]; simpa using e1⟩
    · rintro ⟨hl, e1⟩
      have e2 : atL L k = L[k] := by simp [atL, hl]
      rw [e2, same_data] at e1
      exact ⟨by simpa using hl, by simpa using e1⟩
  constructor
  · intro hc
    rw [if_pos (ec.2 hc)] at e
    unfold putL
    rw [e]; exact back_data L
  · intro hc
    rw [if_neg (fun h => hc (ec.1 h))] at e
    apply datas_inj
    rw [putL_data, e]
    simp
theorem putL_len (L : List ByteArray) (t : ByteArray) : (putL L t).length ≤ L.length + 1 := by
  have : ∀ K : List (List UInt8), (putT K t.data.toList).length ≤ K.length + 1 := by
    intro K
    induction K with
    | nil => simp [putT]
    | cons x K ih =>
      rw [putT]
      split
      · simp; omega
      · split <;> simp
  have h := this (L.map (·.data.toList))
  unfold putL
  simpa using h

theorem own_base {w : World} {B B2 n : Nat} {e : TypeId} {v : Value} {xs : List Value} (h : w.ownsRow B2 e 1 v n xs) (hB : B ≤ B2) : w.ownsRow B e 1 v n xs := by
  obtain ⟨hl, h0 | ⟨g, cap, cur, rfl, hb, r⟩⟩ := h
  · exact ⟨hl, .inl h0⟩
  · exact ⟨hl, .inr ⟨g, cap, cur, rfl, by omega, r⟩⟩
theorem strCells_get {L : List ByteArray} {j : Nat} {u : Value} (h : (strCells L)[j]? = some u) : j < L.length ∧ u = .string (atL L j) := by
  have hj : j < L.length := by
    have := (List.getElem?_eq_some_iff.1 h).1
    simpa [strCells] using this
  refine ⟨hj, ?_⟩
  simp [strCells, hj] at h
  rw [← h]; simp [atL, hj]
theorem news_from {w W : World} {L : List ByteArray} {g k o : Nat} (hb : Below w.heap.size w W) (hg : g < w.heap.size) (hc : ∀ j, j < L.length → w.cell? ⟨g, j, none⟩ = some (.string (atL L j)) ∧ w.frozen? ⟨g, j, none⟩ = false) (ho : k < L.length → o = k) :
    ∀ j u, (strCells (L.drop k))[j]? = some u → W.cell? ((⟨g, o, none⟩ : Addr).add j) = some u := by
  intro j u hu
  obtain ⟨hj, rfl⟩ := strCells_get hu
  rw [List.length_drop] at hj
  rw [ho (by omega), Addr.add_lit, (bcell hb).1 _ _ hg, (hc (k + j) (by omega)).1]
  simp [atL]
theorem news_to {w W : World} {L : List ByteArray} {g k : Nat} (hb : Below w.heap.size w W) (hg : g < w.heap.size) (hc : ∀ j, j < L.length → w.cell? ⟨g, j, none⟩ = some (.string (atL L j)) ∧ w.frozen? ⟨g, j, none⟩ = false) :
    ∀ j u, (strCells (L.take k))[j]? = some u → W.cell? ((⟨g, 0, none⟩ : Addr).add j) = some u := by
  intro j u hu
  obtain ⟨hj, rfl⟩ := strCells_get hu
  rw [List.length_take] at hj
  rw [Addr.add_lit, Nat.zero_add, (bcell hb).1 _ _ hg, (hc j (by omega)).1]
  simp [atL, show j < k by omega]
theorem strCells_one {L : List ByteArray} : ∀ u ∈ strCells L, u.oneCell' = true := by
  intro u hu
  unfold strCells at hu
  rw [List.mem_map] at hu
  obtain ⟨x, _, rfl⟩ := hu
  rfl
set_option maxRecDepth 10000 in
set_option maxHeartbeats 4000000 in
theorem specPut_any (v : Value) (B : Nat) (L : List ByteArray) (t : ByteArray) (w : World) (hB : B ≤ w.heap.size) (ho : w.ownsRow B 9 1 v L.length (strCells L)) (hv : ¬ v = .slice none 0 0) (hn : L.length ≤ 1048576) :
    Calls Tryd.prog 29 #[v, .string t] w fun e w' => ∃ v', e = .returned v' ∧ w'.ownsRow B 9 1 v' (putL L t).length (strCells (putL L t)) ∧ (¬ v' = .slice none 0 0) ∧ Below w.heap.size w w' := by
  obtain ⟨i0, hi, hz0, hz1, hz2⟩ := info_parts infoStr
  have HO : Hid (w.ownsRow B 9 1 v L.length (strCells L)) := ho
  have HP : Hid (∀ k, k ≤ L.length → (∀ j, j < k → Op.bytesLess (atL L j).toList t.toList = true) → (k < L.length → Op.bytesLess (atL L k).toList t.toList = false) →
      ((k < L.length ∧ ((atL L k).toList == t.toList) = true) → putL L t = L) ∧ (¬ (k < L.length ∧ ((atL L k).toList == t.toList) = true) → putL L t = L.take k ++ t :: L.drop k)) := fun k a b c => putL_at a b c
  obtain ⟨hl0, ⟨rfl, h0⟩ | ⟨g, cap, cur, rfl, hbg, hh, hcap, -, -, htake⟩⟩ := ho
  · exact absurd rfl hv
  have hgw : g < w.heap.size := (Array.getElem?_eq_some_iff.mp hh).1
  have HG : Hid (∀ j, j < L.length → w.cell? ⟨g, j, none⟩ = some (.string (atL L j)) ∧ w.frozen? ⟨g, j, none⟩ = false) := fun j hj => by
    obtain ⟨p', c', e', hg'⟩ := slice_of_own HO.out
    obtain ⟨g', rfl, -, -, hc⟩ := hg' (by omega)
    obtain rfl : g = g' := by injection e' with a; injection a with a; injection a
    exact hc j hj
  clear hl0 htake hh hv
  generalize putL L t = R at *
  go_enter Tryd.func29, Tryd.ntmps29
  go_wp2
  go_loopw [5] (fun i wr => ∃ k : Nat, k ≤ L.length ∧ i = .int .i64 k ∧ wr = w ∧ Hid (∀ j, j < k → Op.bytesLess (atL L j).toList t.toList = true)) (fun i _ => L.length - (intOf i).toNat)
  case atStart => exact ⟨0, Nat.zero_le _, rfl, rfl, fun j hj => absurd hj (by omega)⟩
  case round =>
    obtain ⟨k, hk, rfl, rfl, HR⟩ := hrel
    have k0 : (0 : Int) ≤ k := by omega
    have kc : (k : Int) ≤ cap := by omega
    have kl : (k : Int) ≤ L.length := by omega
    have lc : (L.length : Int) ≤ cap := by omega
    by_cases hlt : k < L.length
    · have hck := (HG.out k hlt).1
      have k1 : (k : Int) < L.length := by omega
      have hkc : ¬ cap = k := by omega
      cases hl : Op.bytesLess (atL L k).toList t.toList with
      | true =>
        have HK : Hid (Op.bytesLess (atL L k).toList t.toList = true) := hl
        generalize hx : atL L k = x at *
        have HX : Hid (atL L k = x) := hx
        clear hx
        go_wp2
        go_roundw
        case rel =>
          refine ⟨k + 1, by omega, by go_num, trivial, ?_⟩
          intro j hj
          by_cases e : j = k
          · subst e; rw [HX.out]; exact HK.out
          · exact HR.out j (by omega)
        case measure => simp [intOf]; omega
      | false =>
        have HP2 := HP.out k hk HR.out (fun _ => hl)
        cases he : ((atL L k).toList == t.toList) with
        | true =>
          have HQ : Hid (R = L) := HP2.1 ⟨hlt, he⟩
          clear HP2
          generalize atL L k = x at *
          go_wp2
          go_ret
          exact ⟨_, rfl, by rw [HQ.out]; exact HO.out, by simp, Below.refl _ _⟩
        | false =>
          have HQ : Hid (R = L.take k ++ t :: L.drop k) := HP2.2 (by rw [he]; rintro ⟨_, h⟩; cases h)
          have hb0 : Below wr.heap.size wr (wr.alloc (.cells #[] 9)) := (Below.refl _ _).alloc (Nat.le_refl _) _
          clear HP2
          generalize atL L k = x at *
          go_wp2_with (at_builtin; go_must (refine wpList_append_own _ rfl _ _ 22 rfl wr.heap.size 9 i0 (.string ⟨#[]⟩) 1 16 Tryd.underlying22 hi hz0 hz1 hz2 rfl (by decide) _ _ _ rfl (World.ownsRow_made wr #[] 0 (Nat.le_refl _) (Nat.zero_le _) rfl) ⟨g, 0, none⟩ k _ (strCells (L.take k)) rfl (by simp [strCells]; omega) (news_to hb0 hgw HG.out) strCells_one (by unfold maxLen; omega) (by omega) (by simp) ?_))
          intro v1 w1 ho1 hg1 hn1
          have hb1 : Below wr.heap.size wr w1 := hb0.grown hg1 (by simp) (fun j hj => by simp [Value.ownBlock] at hj; omega)
          have B1 : Hid (Below wr.heap.size wr w1) := hb1
          have O1 : Hid (w1.ownsRow wr.heap.size 9 1 v1 k (strCells (L.take k))) := by show World.ownsRow _ _ _ _ _ _ _; simpa using ho1
          have N1 : Hid (¬ v1 = .slice none 0 0) := by show ¬ _; simpa using hn1
          have hz1' := hb1.size
          clear hb1 ho1 hg1 hn1 hb0
          go_wp2_with (at_builtin; go_must (refine wpList_append_own _ rfl _ _ 22 rfl wr.heap.size 9 i0 (.string ⟨#[]⟩) 1 16 Tryd.underlying22 hi hz0 hz1 hz2 rfl (by decide) _ _ _ rfl (O1.out.alloc _) ⟨w1.heap.size, 0, none⟩ 1 1 [.string t] rfl rfl (cell_one_new _ _ _) (by intro u hu; simp at hu; subst hu; rfl) (by unfold maxLen; omega) (by omega) (by simp; omega) ?_))
          intro v2 w2 ho2 hg2 hn2
          have hb2 : Below wr.heap.size wr w2 := (B1.out.alloc hz1' _).grown hg2 (by simp; omega) (fun j hj => (O1.out.lt j hj).1)
          have B2 : Hid (Below wr.heap.size wr w2) := hb2
          have O2 : Hid (w2.ownsRow wr.heap.size 9 1 v2 (k + 1) (strCells (L.take k) ++ [.string t])) := ho2
          have N2 : Hid (¬ v2 = .slice none 0 0) := hn2
          have hz2' := hb2.size
          clear hb2 ho2 hg2 hn2 O1 B1 N1
          go_wp2_with (at_builtin; go_must (refine wpList_append_own _ rfl _ _ 22 rfl wr.heap.size 9 i0 (.string ⟨#[]⟩) 1 16 Tryd.underlying22 hi hz0 hz1 hz2 rfl (by decide) _ _ _ rfl O2.out ⟨g, k, none⟩ (L.length - k) _ (strCells (L.drop k)) rfl (by simp [strCells]) (news_from B2.out hgw HG.out (by omega)) strCells_one (by unfold maxLen; omega) (by omega) hz2' ?_))
          intro v3 w3 ho3 hg3 hn3
          have hb3 : Below wr.heap.size wr w3 := B2.out.grown hg3 hz2' (fun j hj => (O2.out.lt j hj).1)
          have O3 : Hid (w3.ownsRow B 9 1 v3 R.length (strCells R)) := by
            show World.ownsRow _ _ _ _ _ _ _
            have e1 : strCells R = strCells (L.take k) ++ .string t :: strCells (L.drop k) := by rw [HQ.out]; simp [strCells]
            have e2 : R.length = k + 1 + (L.length - k) := by rw [HQ.out]; simp; omega
            rw [e1, e2]; exact own_base ho3 hB
          have N3 : Hid (¬ v3 = .slice none 0 0) := fun h => N2.out (hn3.1 h).1
          have B3 : Hid (Below wr.heap.size wr w3) := hb3
          clear hb3 ho3 hg3 hn3 O2 B2 N2
          go_wp2
          go_ret
          exact ⟨_, rfl, O3.out, N3.out, B3.out⟩
    · have HQ : Hid (R = L.take k ++ t :: L.drop k) := (HP.out k hk HR.out (fun h => absurd h hlt)).2 (fun h => hlt h.1)
      have hb0 : Below wr.heap.size wr (wr.alloc (.cells #[] 9)) := (Below.refl _ _).alloc (Nat.le_refl _) _
      have k1 : ¬ (k : Int) < L.length := by omega
      by_cases hkc : cap = k
      · go_wp2_with (at_builtin; go_must (refine wpList_append_own _ rfl _ _ 22 rfl wr.heap.size 9 i0 (.string ⟨#[]⟩) 1 16 Tryd.underlying22 hi hz0 hz1 hz2 rfl (by decide) _ _ _ rfl (World.ownsRow_made wr #[] 0 (Nat.le_refl _) (Nat.zero_le _) rfl) ⟨g, 0, none⟩ k _ (strCells (L.take k)) rfl (by simp [strCells]; omega) (news_to hb0 hgw HG.out) strCells_one (by unfold maxLen; omega) (by omega) (by simp) ?_))
        intro v1 w1 ho1 hg1 hn1
        have hb1 : Below wr.heap.size wr w1 := hb0.grown hg1 (by simp) (fun j hj => by simp [Value.ownBlock] at hj; omega)
        have B1 : Hid (Below wr.heap.size wr w1) := hb1
        have O1 : Hid (w1.ownsRow wr.heap.size 9 1 v1 k (strCells (L.take k))) := by show World.ownsRow _ _ _ _ _ _ _; simpa using ho1
        have N1 : Hid (¬ v1 = .slice none 0 0) := by show ¬ _; simpa using hn1
        have hz1' := hb1.size
        clear hb1 ho1 hg1 hn1 hb0
        go_wp2_with (at_builtin; go_must (refine wpList_append_own _ rfl _ _ 22 rfl wr.heap.size 9 i0 (.string ⟨#[]⟩) 1 16 Tryd.underlying22 hi hz0 hz1 hz2 rfl (by decide) _ _ _ rfl (O1.out.alloc _) ⟨w1.heap.size, 0, none⟩ 1 1 [.string t] rfl rfl (cell_one_new _ _ _) (by intro u hu; simp at hu; subst hu; rfl) (by unfold maxLen; omega) (by omega) (by simp; omega) ?_))
        intro v2 w2 ho2 hg2 hn2
        have hb2 : Below wr.heap.size wr w2 := (B1.out.alloc hz1' _).grown hg2 (by simp; omega) (fun j hj => (O1.out.lt j hj).1)
        have B2 : Hid (Below wr.heap.size wr w2) := hb2
        have O2 : Hid (w2.ownsRow wr.heap.size 9 1 v2 (k + 1) (strCells (L.take k) ++ [.string t])) := ho2
        have N2 : Hid (¬ v2 = .slice none 0 0) := hn2
        have hz2' := hb2.size
        clear hb2 ho2 hg2 hn2 O1 B1 N1
        go_wp2_with (at_builtin; go_must (refine wpList_append_own _ rfl _ _ 22 rfl wr.heap.size 9 i0 (.string ⟨#[]⟩) 1 16 Tryd.underlying22 hi hz0 hz1 hz2 rfl (by decide) _ _ _ rfl O2.out ⟨g, 0, none⟩ (L.length - k) _ (strCells (L.drop k)) rfl (by simp [strCells]) (news_from B2.out hgw HG.out (by omega)) strCells_one (by unfold maxLen; omega) (by omega) hz2' ?_))
        intro v3 w3 ho3 hg3 hn3
        have hb3 : Below wr.heap.size wr w3 := B2.out.grown hg3 hz2' (fun j hj => (O2.out.lt j hj).1)
        have O3 : Hid (w3.ownsRow B 9 1 v3 R.length (strCells R)) := by
          show World.ownsRow _ _ _ _ _ _ _
          have e1 : strCells R = strCells (L.take k) ++ .string t :: strCells (L.drop k) := by rw [HQ.out]; simp [strCells]
          have e2 : R.length = k + 1 + (L.length - k) := by rw [HQ.out]; simp; omega
          rw [e1, e2]; exact own_base ho3 hB
        have N3 : Hid (¬ v3 = .slice none 0 0) := fun h => N2.out (hn3.1 h).1
        have B3 : Hid (Below wr.heap.size wr w3) := hb3
        clear hb3 ho3 hg3 hn3 O2 B2 N2
        go_wp2
        go_ret
        exact ⟨_, rfl, O3.out, N3.out, B3.out⟩
      · go_wp2_with (at_builtin; go_must (refine wpList_append_own _ rfl _ _ 22 rfl wr.heap.size 9 i0 (.string ⟨#[]⟩) 1 16 Tryd.underlying22 hi hz0 hz1 hz2 rfl (by decide) _ _ _ rfl (World.ownsRow_made wr #[] 0 (Nat.le_refl _) (Nat.zero_le _) rfl) ⟨g, 0, none⟩ k _ (strCells (L.take k)) rfl (by simp [strCells]; omega) (news_to hb0 hgw HG.out) strCells_one (by unfold maxLen; omega) (by omega) (by simp) ?_))
        intro v1 w1 ho1 hg1 hn1
        have hb1 : Below wr.heap.size wr w1 := hb0.grown hg1 (by simp) (fun j hj => by simp [Value.ownBlock] at hj; omega)
        have B1 : Hid (Below wr.heap.size wr w1) := hb1
        have O1 : Hid (w1.ownsRow wr.heap.size 9 1 v1 k (strCells (L.take k))) := by show World.ownsRow _ _ _ _ _ _ _; simpa using ho1
        have N1 : Hid (¬ v1 = .slice none 0 0) := by show ¬ _; simpa using hn1
        have hz1' := hb1.size
        clear hb1 ho1 hg1 hn1 hb0
        go_wp2_with (at_builtin; go_must (refine wpList_append_own _ rfl _ _ 22 rfl wr.heap.size 9 i0 (.string ⟨#[]⟩) 1 16 Tryd.underlying22 hi hz0 hz1 hz2 rfl (by decide) _ _ _ rfl (O1.out.alloc _) ⟨w1.heap.size, 0, none⟩ 1 1 [.string t] rfl rfl (cell_one_new _ _ _) (by intro u hu; simp at hu; subst hu; rfl) (by unfold maxLen; omega) (by omega) (by simp; omega) ?_))
        intro v2 w2 ho2 hg2 hn2
        have hb2 : Below wr.heap.size wr w2 := (B1.out.alloc hz1' _).grown hg2 (by simp; omega) (fun j hj => (O1.out.lt j hj).1)
        have B2 : Hid (Below wr.heap.size wr w2) := hb2
        have O2 : Hid (w2.ownsRow wr.heap.size 9 1 v2 (k + 1) (strCells (L.take k) ++ [.string t])) := ho2
        have N2 : Hid (¬ v2 = .slice none 0 0) := hn2
        have hz2' := hb2.size
        clear hb2 ho2 hg2 hn2 O1 B1 N1
        go_wp2_with (at_builtin; go_must (refine wpList_append_own _ rfl _ _ 22 rfl wr.heap.size 9 i0 (.string ⟨#[]⟩) 1 16 Tryd.underlying22 hi hz0 hz1 hz2 rfl (by decide) _ _ _ rfl O2.out ⟨g, k, none⟩ (L.length - k) _ (strCells (L.drop k)) rfl (by simp [strCells]) (news_from B2.out hgw HG.out (by omega)) strCells_one (by unfold maxLen; omega) (by omega) hz2' ?_))
        intro v3 w3 ho3 hg3 hn3
        have hb3 : Below wr.heap.size wr w3 := B2.out.grown hg3 hz2' (fun j hj => (O2.out.lt j hj).1)
        have O3 : Hid (w3.ownsRow B 9 1 v3 R.length (strCells R)) := by
          show World.ownsRow _ _ _ _ _ _ _
          have e1 : strCells R = strCells (L.take k) ++ .string t :: strCells (L.drop k) := by rw [HQ.out]; simp [strCells]
          have e2 : R.length = k + 1 + (L.length - k) := by rw [HQ.out]; simp; omega
          rw [e1, e2]; exact own_base ho3 hB
        have N3 : Hid (¬ v3 = .slice none 0 0) := fun h => N2.out (hn3.1 h).1
        have B3 : Hid (Below wr.heap.size wr w3) := hb3
        clear hb3 ho3 hg3 hn3 O2 B2 N2
        go_wp2
        go_ret
        exact ⟨_, rfl, O3.out, N3.out, B3.out⟩
end Go.Proofs.YtmlacbjlafdenahDoor

/- The first place of a text in another one, and the number that digits tell, as plain functions. -/
namespace Go.Proofs.YtmlacbjlafdenahDoor
/-- does x stand in t at place i? -/
def isAt (t x : ByteArray) (i : Nat) : Bool := (t.extract i (i + x.size)).toList == x.toList
/-- the first place of x in t among the first i ones -/
def findTo (t x : ByteArray) : Nat → Option Nat
  | 0 => none
  | i + 1 => match findTo t x i with
    | some k => some k
    | none => if i + x.size ≤ t.size ∧ isAt t x i = true then some i else none
def findN (t x : ByteArray) : Option Nat := findTo t x (t.size + 1)
/-- as the specification tells it: -1 of none -/
def findI (t x : ByteArray) : Int := match findN t x with | some k => (k : Int) | none => -1
theorem findTo_hit {t x : ByteArray} {i : Nat} (h : findTo t x i = none) (h1 : i + x.size ≤ t.size) (h2 : isAt t x i = true) : findTo t x (i + 1) = some i := by
  rw [findTo, h]; simp [h1, h2]
theorem findTo_miss {t x : ByteArray} {i : Nat} (h : findTo t x i = none) (h2 : ¬ (i + x.size ≤ t.size ∧ isAt t x i = true)) : findTo t x (i + 1) = none := by
  rw [findTo, h]; simp only; rw [if_neg h2]
theorem findTo_keep {t x : ByteArray} {i k : Nat} (h : findTo t x i = some k) (j : Nat) : findTo t x (i + j) = some k := by
  induction j with
  | zero => exact h
  | succ j ih => rw [← Nat.add_assoc, findTo, ih]
theorem findTo_after {t x : ByteArray} {i : Nat} (h : findTo t x i = none) (hi : t.size < i + x.size) (j : Nat) : findTo t x (i + j) = none := by
  induction j with
  | zero => exact h
  | succ j ih => rw [← Nat.add_assoc]; exact findTo_miss ih (by omega)
theorem findTo_lt {t x : ByteArray} {i k : Nat} (h : findTo t x i = some k) : k < i ∧ k + x.size ≤ t.size ∧ isAt t x k = true := by
  induction i with
  | zero => cases h
  | succ i ih =>
    rw [findTo] at h
    cases hf : findTo t x i with
    | some m =>
      rw [hf] at h
      obtain rfl : m = k := by simpa using h
      have := ih hf
      exact ⟨by omega, this.2⟩
    | none =>
      rw [hf] at h
      simp only at h
      split at h
      · rename_i hc
        obtain rfl : i = k := by simpa using h
        exact ⟨by omega, hc⟩
      · cases h
theorem findI_hit {t x : ByteArray} {i : Nat} (h : findTo t x i = none) (h1 : i + x.size ≤ t.size) (h2 : isAt t x i = true) : findI t x = i := by
  have h3 := findTo_keep (findTo_hit h h1 h2) (t.size - i)
  unfold findI findN
  rw [show t.size + 1 = i + 1 + (t.size - i) by omega, h3]
theorem findI_none {t x : ByteArray} {i : Nat} (h : findTo t x i = none) (hi : t.size < i + x.size) (hle : i ≤ t.size + 1) : findI t x = -1 := by
  have h3 := findTo_after h hi (t.size + 1 - i)
  unfold findI findN
  rw [show t.size + 1 = i + (t.size + 1 - i) by omega, h3]
/-- the number of the first i bytes as digits -/
def numTo (t : ByteArray) : Nat → Nat
  | 0 => 0
  | i + 1 => if h : i < t.size then 10 * numTo t i + (t[i].toNat - 48) else numTo t i
theorem numTo_succ {t : ByteArray} {i : Nat} (h : i < t.size) : numTo t (i + 1) = 10 * numTo t i + (t[i].toNat - 48) := by rw [numTo, dif_pos h]
theorem numTo_lt (t : ByteArray) (hd : ∀ i (h : i < t.size), 48 ≤ t[i].toNat ∧ t[i].toNat ≤ 57) (i : Nat) : numTo t i < 10 ^ i := by
  induction i with
  | zero => exact (by decide : 0 < 10 ^ 0)
  | succ i ih =>
    rw [numTo, Nat.pow_succ]
    split
    · rename_i h
      have := hd i h
      omega
    · omega
def digC (c : Nat) : Bool := decide (48 ≤ c ∧ c ≤ 57)
/-- digits that are no number of at most nine of them: -1 -/
def numI (t : ByteArray) : Int := if 1 ≤ t.size ∧ t.size ≤ 9 ∧ (1 < t.size → ∀ h : 0 < t.size, ¬ t[0].toNat = 48) ∧ ∀ i (h : i < t.size), digC t[i].toNat = true then (numTo t t.size : Int) else -1
theorem numI_size {t : ByteArray} (h : t.size < 1 ∨ 9 < t.size) : numI t = -1 := by
  unfold numI; rw [if_neg]; rintro ⟨a, b, _⟩; omega
theorem numI_first {t : ByteArray} (h : 1 < t.size) (hc : t[0].toNat = 48) : numI t = -1 := by
  unfold numI; rw [if_neg]; rintro ⟨_, _, a, _⟩; exact a h (by omega) hc
theorem numI_at {t : ByteArray} (k : Nat) (h : k < t.size) (hk : digC t[k].toNat = false) : numI t = -1 := by
  unfold numI; rw [if_neg]; rintro ⟨_, _, _, c⟩; rw [c k h] at hk; cases hk
theorem numI_yes {t : ByteArray} (h1 : 1 ≤ t.size) (h2 : t.size ≤ 9) (h3 : 1 < t.size → ∀ h : 0 < t.size, ¬ t[0].toNat = 48) (h : ∀ i (h : i < t.size), digC t[i].toNat = true) : numI t = numTo t t.size := by
  unfold numI; rw [if_pos ⟨h1, h2, h3, h⟩]
theorem digC_yes {c : Nat} (h : 48 ≤ c ∧ c ≤ 57) : digC c = true := by unfold digC; rw [decide_eq_true_iff]; exact h
theorem digC_no {c : Nat} (h : ¬ (48 ≤ c ∧ c ≤ 57)) : digC c = false := by unfold digC; rw [decide_eq_false_iff_not]; exact h
theorem digC_of {c : Nat} (h : digC c = true) : 48 ≤ c ∧ c ≤ 57 := by unfold digC at h; rwa [decide_eq_true_iff] at h
end Go.Proofs.YtmlacbjlafdenahDoor

/- The walks of the specification's l02Find (from place 0 on) and l02Num. -/
namespace Go.Proofs.YtmlacbjlafdenahDoor
open Go.RowKit

set_option maxRecDepth 10000 in
set_option maxHeartbeats 400000 in
theorem specFind_any (t x : ByteArray) (w : World) (ht : t.size ≤ 1048576) (hx : x.size ≤ 1048576) :
    Calls Tryd.prog 44 #[.string t, .int .i64 0, .string x] w fun e w' => e = .returned (.int .i64 (findI t x)) ∧ w' = w := by
  go_enter Tryd.func44, Tryd.ntmps44
  go_wp2
  go_loop [7] (fun i => ∃ k : Nat, k ≤ t.size + 1 ∧ i = .int .i64 k ∧ Hid (findTo t x k = none)) (fun i => t.size + 1 - (intOf i).toNat)
  case atStart => exact ⟨0, by omega, rfl, rfl⟩
  case round =>
    obtain ⟨k, hk, rfl, HN⟩ := hrel
    by_cases hle : k + x.size ≤ t.size
    · cases hat : isAt t x k with
      | true =>
        have HF : Hid (findI t x = k) := findI_hit HN.out hle hat
        have q : ((t.extract k (k + x.size)).toList == x.toList) = true := hat
        clear hat
        go_wp2
        go_ret
        exact ⟨ret_int HF.out.symm, rfl⟩
      | false =>
        have HF : Hid (findTo t x (k + 1) = none) := findTo_miss HN.out (by rw [hat]; simp)
        have q : ((t.extract k (k + x.size)).toList == x.toList) = false := hat
        clear hat
        go_wp2
        go_round
        case rel => exact ⟨k + 1, by omega, by go_num, HF⟩
        case measure => simp [intOf]; omega
    · have HF : Hid (findI t x = -1) := findI_none HN.out (by omega) hk
      go_wp2
      go_ret
      exact ⟨ret_int HF.out.symm, rfl⟩

end Go.Proofs.YtmlacbjlafdenahDoor

/- The walk of the specification's RuleRight. -/
namespace Go.Proofs.YtmlacbjlafdenahDoor
open Go.RowKit

/-- does it begin with an exclamation mark? -/
def bangB (s : ByteArray) : Bool := decide (∃ h : 0 < s.size, s[0].toNat = 33)
/-- does it begin with a star and a point, and go on? -/
def starB (s : ByteArray) : Bool := decide (2 < s.size) && ((s.extract 0 2).toList == [42, 46])
/-- a right rule -/
def ruleB (s : ByteArray) : Bool := if bangB s = true then hostB (s.extract 1 s.size) && decide (0 ≤ findI s ⟨#[46]⟩) else if starB s = true then hostB (s.extract 2 s.size) else hostB s
theorem bangB_yes {s : ByteArray} (h : 0 < s.size) (h1 : s[0].toNat = 33) : bangB s = true := by unfold bangB; rw [decide_eq_true_iff]; exact ⟨h, h1⟩
theorem bangB_no {s : ByteArray} (h : ¬ ∃ h : 0 < s.size, s[0].toNat = 33) : bangB s = false := by unfold bangB; rw [decide_eq_false_iff_not]; exact h
theorem ruleB_bang {s : ByteArray} (h : bangB s = true) : ruleB s = (hostB (s.extract 1 s.size) && decide (0 ≤ findI s ⟨#[46]⟩)) := by rw [ruleB, if_pos h]
theorem ruleB_star {s : ByteArray} (h : bangB s = false) (h2 : starB s = true) : ruleB s = hostB (s.extract 2 s.size) := by rw [ruleB, if_neg (by simp [h]), if_pos h2]
theorem ruleB_host {s : ByteArray} (h : bangB s = false) (h2 : starB s = false) : ruleB s = hostB s := by rw [ruleB, if_neg (by simp [h]), if_neg (by simp [h2])]

set_option maxRecDepth 10000 in
set_option maxHeartbeats 400000 in
theorem specRule_any (s : ByteArray) (w : World) (hs : s.size ≤ 1048576) :
    Calls Tryd.prog 26 #[.string s] w fun e w' => e = .returned (.bool (ruleB s)) ∧ Below w.heap.size w w' := by
  by_cases hb : ∃ h : 0 < s.size, s[0].toNat = 33
  · obtain ⟨hp, h33⟩ := hb
    have HR : Hid (ruleB s = (hostB (s.extract 1 s.size) && decide (0 ≤ findI s ⟨#[46]⟩))) := ruleB_bang (bangB_yes hp h33)
    have q1 : ((s[0].toNat : Int) == 33) = true := by rw [beq_iff_eq]; omega
    have H1 := fun W => specHost_any (s.extract 1 s.size) W
    have H2 := fun W => specFind_any s ⟨#[46]⟩ W hs (by decide)
    generalize hostB (s.extract 1 s.size) = b at *
    generalize findI s ⟨#[46]⟩ = f at *
    have G1 : Hid (∀ W, Calls Tryd.prog 35 #[.string (s.extract 1 s.size)] W fun e w' => e = .returned (.bool b) ∧ Below W.heap.size W w') := H1
    have G2 : Hid (∀ W, Calls Tryd.prog 44 #[.string s, .int .i64 0, .string ⟨#[46]⟩] W fun e w' => e = .returned (.int .i64 f) ∧ w' = W) := H2
    clear H1 H2 h33
    cases b with
    | false =>
      go_enter Tryd.func26, Tryd.ntmps26
      go_wp2_with (go_at_call 35; refine (G1.out _).mono ?_; rintro e w1 ⟨rfl, hb1⟩)
      go_ret
      exact ⟨ret_bool (by rw [HR.out]; rfl), hb1⟩
    | true =>
      go_enter Tryd.func26, Tryd.ntmps26
      go_wp2_with (first | (go_at_call 35; refine (G1.out _).mono ?_; rintro e w1 ⟨rfl, hb1⟩) | (go_at_call 44; refine (G2.out _).mono ?_; rintro e w2 ⟨rfl, rfl⟩))
      go_ret
      exact ⟨ret_bool (by rw [HR.out]; rfl), hb1⟩
  · have hbf := bangB_no hb
    cases hst : starB s with
    | true =>
      have HR : Hid (ruleB s = hostB (s.extract 2 s.size)) := ruleB_star hbf hst
      unfold starB at hst
      rw [Bool.and_eq_true, decide_eq_true_eq] at hst
      obtain ⟨h2, q3⟩ := hst
      have hp : 0 < s.size := by omega
      have q1 : ((s[0].toNat : Int) == 33) = false := by
        rw [beq_eq_false_iff_ne]
        intro e
        exact hb ⟨hp, by omega⟩
      have H1 := fun W => specHost_any (s.extract 2 s.size) W
      generalize hostB (s.extract 2 s.size) = b at *
      have G1 : Hid (∀ W, Calls Tryd.prog 35 #[.string (s.extract 2 s.size)] W fun e w' => e = .returned (.bool b) ∧ Below W.heap.size W w') := H1
      clear H1 hb hbf
      go_enter Tryd.func26, Tryd.ntmps26
      go_wp2_with (go_at_call 35; refine (G1.out _).mono ?_; rintro e w1 ⟨rfl, hb1⟩)
      go_ret
      exact ⟨ret_bool HR.out.symm, hb1⟩
    | false =>
      have HR : Hid (ruleB s = hostB s) := ruleB_host hbf hst
      have H1 := fun W => specHost_any s W
      generalize hostB s = b at *
      have G1 : Hid (∀ W, Calls Tryd.prog 35 #[.string s] W fun e w' => e = .returned (.bool b) ∧ Below W.heap.size W w') := H1
      clear H1
      unfold starB at hst
      by_cases h0 : 0 < s.size
      · have q1 : ((s[0].toNat : Int) == 33) = false := by
          rw [beq_eq_false_iff_ne]
          intro e
          exact hb ⟨h0, by omega⟩
        by_cases h2 : 2 < s.size
        · have q3 : ((s.extract 0 2).toList == [42, 46]) = false := by
            rw [decide_eq_true h2, Bool.true_and] at hst; exact hst
          clear hst hb hbf
          go_enter Tryd.func26, Tryd.ntmps26
          go_wp2_with (go_at_call 35; refine (G1.out _).mono ?_; rintro e w1 ⟨rfl, hb1⟩)
          go_ret
          exact ⟨ret_bool HR.out.symm, hb1⟩
        · have q2 : decide ((2 : Int) < (s.size : Int)) = false := by rw [decide_eq_false_iff_not]; omega
          clear hst hb hbf
          go_enter Tryd.func26, Tryd.ntmps26
          go_wp2_with (go_at_call 35; refine (G1.out _).mono ?_; rintro e w1 ⟨rfl, hb1⟩)
          go_ret
          exact ⟨ret_bool HR.out.symm, hb1⟩
      · have q0 : decide ((0 : Int) < (s.size : Int)) = false := by rw [decide_eq_false_iff_not]; omega
        have q2 : decide ((2 : Int) < (s.size : Int)) = false := by rw [decide_eq_false_iff_not]; omega
        clear hst hb hbf
        go_enter Tryd.func26, Tryd.ntmps26
        go_wp2_with (go_at_call 35; refine (G1.out _).mono ?_; rintro e w1 ⟨rfl, hb1⟩)
        go_ret
        exact ⟨ret_bool HR.out.symm, hb1⟩
end Go.Proofs.YtmlacbjlafdenahDoor

/- What RulesRead tells, as a plain function; rules put one by one are those sorted and each kept once. -/
namespace Go.Proofs.YtmlacbjlafdenahDoor
open Go.RowKit

/-- of the first k lines the rules, put in their places -/
def putsTo (L : List ByteArray) : Nat → List ByteArray
  | 0 => []
  | k + 1 => if ruleB (atL L k) = true then putL (putsTo L k) (atL L k) else putsTo L k
/-- of the first k lines the rules, as they stand -/
def keptTo (L : List ByteArray) : Nat → List ByteArray
  | 0 => []
  | k + 1 => if ruleB (atL L k) = true then keptTo L k ++ [atL L k] else keptTo L k
theorem putsTo_len (L : List ByteArray) : ∀ k, (putsTo L k).length ≤ k
  | 0 => Nat.le_refl _
  | k + 1 => by
    have ih := putsTo_len L k
    rw [putsTo]
    split
    · have := putL_len (putsTo L k) (atL L k); omega
    · omega
theorem keptTo_len (L : List ByteArray) : ∀ k, (keptTo L k).length ≤ k
  | 0 => Nat.le_refl _
  | k + 1 => by
    have ih := keptTo_len L k
    rw [keptTo]
    split
    · simp; omega
    · omega
theorem puts_kept (L : List ByteArray) : ∀ k, (putsTo L k).map (·.data.toList) = ((keptTo L k).map (·.data.toList)).foldl putT []
  | 0 => rfl
  | k + 1 => by
    have ih := puts_kept L k
    rw [putsTo, keptTo]
    split
    · rw [putL_data, ih]; simp
    · exact ih
theorem puts_sorted (L : List ByteArray) (k : Nat) : (putsTo L k).map (·.data.toList) = Lib.compact (((keptTo L k).map (·.data.toList)).mergeSort fun x y => decide (x ≤ y)) := by
  rw [sorted_puts, puts_kept]
/-- what RulesRead tells -/
def readR (s : ByteArray) : List ByteArray := if 8000 < s.size then [] else (putsTo (splitB s 10) (splitB s 10).length).take 20
theorem readR_len (s : ByteArray) : (readR s).length ≤ 20 := by
  unfold readR
  split
  · simp
  · rw [List.length_take]; omega
theorem readR_no {s : ByteArray} (h : 8000 < s.size) : readR s = [] := by rw [readR, if_pos h]
theorem readR_yes {s : ByteArray} (h : ¬ 8000 < s.size) : readR s = (putsTo (splitB s 10) (splitB s 10).length).take 20 := by rw [readR, if_neg h]
theorem own_below {w w' : World} {B n : Nat} {e : TypeId} {v : Value} {xs : List Value} (h : w.ownsRow B e 1 v n xs) (hb : Below w.heap.size w w') : w'.ownsRow B e 1 v n xs := by
  obtain ⟨hl, h0 | ⟨g, cap, cur, rfl, hbg, hh, r⟩⟩ := h
  · exact ⟨hl, .inl h0⟩
  · have hg : g < w.heap.size := (Array.getElem?_eq_some_iff.mp hh).1
    exact ⟨hl, .inr ⟨g, cap, cur, rfl, hbg, by rw [hb.block g hg]; exact hh, r⟩⟩
theorem slice_base {w : World} {B B2 n : Nat} {v : Value} {f : Nat → ByteArray} (h : SliceS w B2 v n f) (hB : B ≤ B2) : SliceS w B v n f := by
  obtain ⟨p, cap, rfl, h⟩ := h
  refine ⟨p, cap, rfl, fun hn => ?_⟩
  obtain ⟨g, rfl, h1, h2, h3⟩ := h hn
  exact ⟨g, rfl, by omega, h2, h3⟩
theorem splitTo_little (s : ByteArray) (c : Nat) : ∀ i, ∀ x ∈ (splitTo s c i).1, x.size ≤ s.size
  | 0, x, h => by cases h
  | i + 1, x, h => by
    rw [splitTo] at h
    split at h
    · split at h
      · rw [List.mem_append] at h
        rcases h with h | h
        · exact splitTo_little s c i x h
        · rw [List.mem_singleton] at h
          rw [h, ByteArray.size_extract]; omega
      · exact splitTo_little s c i x h
    · exact splitTo_little s c i x h
theorem splitB_small (s : ByteArray) (c : Nat) : ∀ x ∈ splitB s c, x.size ≤ s.size := by
  intro x h
  unfold splitB at h
  rw [List.mem_append, List.mem_singleton] at h
  rcases h with h | h
  · exact splitTo_little s c _ x h
  · rw [h, ByteArray.size_extract]; omega
end Go.Proofs.YtmlacbjlafdenahDoor

/- The library's Sort and Compact of a slice of texts that a call owns. -/
namespace Go.Proofs.YtmlacbjlafdenahDoor
open Go.RowKit Go.Sort

theorem cells_enc (K : List ByteArray) : strCells K = (K.map (·.data.toList)).map encStr := by
  rw [List.map_map]
  apply List.map_congr_left
  intro x _
  simp [encStr]
/-- texts sorted -/
def sortL (K : List ByteArray) : List ByteArray := ((K.map (·.data.toList)).mergeSort fun x y => decide (x ≤ y)).map (fun l => ⟨l.toArray⟩)
theorem sortL_data (K : List ByteArray) : (sortL K).map (·.data.toList) = (K.map (·.data.toList)).mergeSort fun x y => decide (x ≤ y) := data_back _
theorem sortL_len (K : List ByteArray) : (sortL K).length = K.length := by
  unfold sortL
  rw [List.length_map, List.length_mergeSort, List.length_map]
/-- each kept once -/
def onceL (K : List ByteArray) : List ByteArray := (Lib.compact (K.map (·.data.toList))).map (fun l => ⟨l.toArray⟩)
theorem onceL_data (K : List ByteArray) : (onceL K).map (·.data.toList) = Lib.compact (K.map (·.data.toList)) := data_back _
theorem onceL_len (K : List ByteArray) : (onceL K).length ≤ K.length := by
  have := Lib.compact_length_le (K.map (·.data.toList))
  unfold onceL
  rw [List.length_map]
  simpa using this
theorem puts_once (L : List ByteArray) (k : Nat) : onceL (sortL (keptTo L k)) = putsTo L k := by
  apply datas_inj
  rw [onceL_data, sortL_data, puts_sorted]

theorem sort_call (B g cap : Nat) (K : List ByteArray) (w : World) (ho : w.ownsRow B 9 1 (.slice (some ⟨g, 0, none⟩) K.length cap) K.length (strCells K)) (hn : K.length ≤ 1048576) :
    Calls Tryd.prog 32 #[.slice (some ⟨g, 0, none⟩) K.length cap] w fun e w' => e = .returned (.tuple #[]) ∧ w'.ownsRow B 9 1 (.slice (some ⟨g, 0, none⟩) K.length cap) K.length (strCells (sortL K)) ∧ w.grownBy w' (some g) := by
  rw [cells_enc] at ho
  obtain ⟨g', cap', e', hb, hlt, hcap, _, hl, hH⟩ := Lib.holds_of_ownsRow ho (by simp)
  obtain ⟨rfl, rfl⟩ : g = g' ∧ cap = cap' := by injection e' with a b c; injection a with a; injection a with a; exact ⟨a, c⟩
  have h := Any.slices_Sort_string Tryd.lays190 g 0 cap (K.map (·.data.toList)) w hH hlt (by simp; omega)
  rw [List.length_map] at h
  refine h.mono ?_
  rintro e w' ⟨rfl, n, os, rfl⟩
  refine ⟨rfl, ?_, grownBy_sorted _⟩
  rcases ho.2 with ⟨h0, _⟩ | ⟨g2, cap2, cur, hv, hbase, hbl, h1, h2, h3, h4⟩
  · cases h0
  cases hv
  rw [cells_enc, sortL_data]
  have hl2 : ((K.map (·.data.toList)).mergeSort fun x y => decide (x ≤ y)).length = (K.map (·.data.toList)).length := List.length_mergeSort _
  have hs := ownsRow_sorted (n := n) (os := os) (ts := (K.map (·.data.toList)).mergeSort fun x y => decide (x ≤ y)) hl2 hbase hbl (by simpa using h1) h2 h3
  rw [List.length_map] at hs
  exact hs
theorem once_call (B g cap : Nat) (K : List ByteArray) (w : World) (ho : w.ownsRow B 9 1 (.slice (some ⟨g, 0, none⟩) K.length cap) K.length (strCells K)) (hn : K.length ≤ 1048576) :
    Calls Tryd.prog 33 #[.slice (some ⟨g, 0, none⟩) K.length cap] w fun e w' => e = .returned (.slice (some ⟨g, 0, none⟩) (onceL K).length cap) ∧ w'.ownsRow B 9 1 (.slice (some ⟨g, 0, none⟩) (onceL K).length cap) (onceL K).length (strCells (onceL K)) ∧ (∀ B0 w0, Below B0 w0 w → B0 ≤ g → Below B0 w0 w') := by
  rw [cells_enc] at ho
  obtain ⟨g', cap', e', hb, hlt, hcap, _, hl, hH⟩ := Lib.holds_of_ownsRow ho (by simp)
  obtain ⟨rfl, rfl⟩ : g = g' ∧ cap = cap' := by injection e' with a b c; injection a with a; injection a with a; exact ⟨a, c⟩
  have h := Any.slices_Compact_string Tryd.lays194 g 0 cap (K.map (·.data.toList)) w hH (by simp; omega) (by simpa using hcap)
  rw [List.length_map] at h
  have el : (Lib.compact (K.map (·.data.toList))).length = (onceL K).length := by unfold onceL; rw [List.length_map]
  have hle := onceL_len K
  rw [el] at h
  refine h.mono ?_
  rintro e w' ⟨rfl, q, rfl⟩
  refine ⟨rfl, ?_, fun B0 w0 hb hg => Lib.below_putRow hb hg⟩
  have hc := Lib.ownsRow_putRow (q := q) (k := (onceL K).length) (ys := Lib.compact (K.map (·.data.toList)) ++ List.replicate (K.length - (onceL K).length) []) ho (by rw [List.length_append, List.length_replicate, el]; omega) hle
  rw [← el, List.take_left, el] at hc
  rw [cells_enc, onceL_data]
  exact hc
end Go.Proofs.YtmlacbjlafdenahDoor

/- What a right rule is, in the words of the library's functions. -/
namespace Go.Proofs.YtmlacbjlafdenahDoor

theorem findTo_none {t x : ByteArray} : ∀ {n : Nat}, findTo t x n = none → ∀ i, i < n → ¬ (i + x.size ≤ t.size ∧ isAt t x i = true)
  | 0, _, i, hi => absurd hi (by omega)
  | n + 1, h, i, hi => by
    rw [findTo] at h
    cases hf : findTo t x n with
    | some m => rw [hf] at h; cases h
    | none =>
      rw [hf] at h
      simp only at h
      by_cases e : i = n
      · subst e
        intro hc
        rw [if_pos hc] at h; cases h
      · exact findTo_none hf i (by omega)
theorem isAt_one {t : ByteArray} {c : UInt8} {i : Nat} (h : i < t.size) : isAt t ⟨#[c]⟩ i = true ↔ t.data.toList[i]? = some c := by
  have e : (t.extract i (i + (⟨#[c]⟩ : ByteArray).size)).toList = (t.data.toList.drop i).take 1 := by
    rw [Lib.toList_data, extract_list]
    rw [show (⟨#[c]⟩ : ByteArray).size = 1 from rfl, Nat.add_sub_cancel_left]
  have hl : i < t.data.toList.length := by simpa using h
  unfold isAt
  rw [e, Lib.toList_data, beq_iff_eq, List.drop_eq_getElem_cons hl, List.take_succ_cons, List.take_zero, List.getElem?_eq_getElem hl]
  simp
theorem find_mem (t : ByteArray) (c : UInt8) : 0 ≤ findI t ⟨#[c]⟩ ↔ c ∈ t.data.toList := by
  have h1 : (⟨#[c]⟩ : ByteArray).size = 1 := rfl
  unfold findI findN
  cases hf : findTo t ⟨#[c]⟩ (t.size + 1) with
  | some k =>
    simp only
    obtain ⟨_, hk, ha⟩ := findTo_lt hf
    rw [h1] at hk
    exact ⟨fun _ => List.mem_of_getElem? ((isAt_one (by omega)).1 ha), fun _ => by omega⟩
  | none =>
    simp only
    refine ⟨fun h => absurd h (by omega), fun h => ?_⟩
    obtain ⟨i, hi, e⟩ := List.getElem_of_mem h
    have hi2 : i < t.size := by simpa using hi
    exact absurd ⟨by rw [h1]; omega, (isAt_one hi2).2 (by rw [List.getElem?_eq_getElem hi, e])⟩ (findTo_none hf i (by omega))
theorem bytes_ext {a b : ByteArray} (h : a.data.toList = b.data.toList) : a = b := by
  cases a; cases b
  congr 1
  exact Array.toList_inj.1 h
theorem extract_to (s : ByteArray) (k : Nat) : (s.extract k s.size).data.toList = s.data.toList.drop k := by
  rw [extract_list, List.take_of_length_le]
  rw [List.length_drop, ← Lib.size_eq]
  omega
theorem bangB_lib (s : ByteArray) : bangB s = Lib.hasPrefix s.data.toList [33] := by
  have e := Lib.hasPrefix_raw s ⟨#[33]⟩
  have hd : (⟨#[33]⟩ : ByteArray).data.toList = [33] := rfl
  rw [hd] at e
  rw [← e]
  have h1 : (⟨#[33]⟩ : ByteArray).size = 1 := rfl
  unfold bangB
  rw [h1]
  by_cases h : 0 < s.size
  · have e2 := isAt_one (t := s) (c := 33) h
    unfold isAt at e2
    rw [h1, Nat.zero_add] at e2
    rw [decide_eq_true (show 1 ≤ s.size by omega), Bool.true_and]
    have hl : 0 < s.data.toList.length := by simpa using h
    rw [List.getElem?_eq_getElem hl, byte_list h] at e2
    rw [Bool.eq_iff_iff, decide_eq_true_iff, e2]
    constructor
    · rintro ⟨_, h3⟩
      congr 1
      exact UInt8.toNat_inj.1 h3
    · intro h3
      exact ⟨h, by rw [Option.some.inj h3]; rfl⟩
  · rw [decide_eq_false (show ¬ 1 ≤ s.size by omega), Bool.false_and, decide_eq_false_iff_not]
    rintro ⟨h2, _⟩; exact h h2
theorem starB_lib (s : ByteArray) : starB s = (decide (2 < s.size) && Lib.hasPrefix s.data.toList [42, 46]) := by
  have e := Lib.hasPrefix_raw s ⟨#[42, 46]⟩
  have hd : (⟨#[42, 46]⟩ : ByteArray).data.toList = [42, 46] := rfl
  have hd2 : (⟨#[42, 46]⟩ : ByteArray).toList = [42, 46] := by rw [Lib.toList_data]
  have h2 : (⟨#[42, 46]⟩ : ByteArray).size = 2 := rfl
  rw [hd, hd2, h2] at e
  unfold starB
  rw [← e]
  by_cases h : 2 < s.size
  · rw [decide_eq_true (show 2 ≤ s.size by omega), Bool.true_and]
  · rw [decide_eq_false h]; simp
/-- without the exclamation mark -/
def unbang (s : ByteArray) : ByteArray := ⟨(Lib.trimPrefix s.data.toList [33]).toArray⟩
theorem unbang_yes {s : ByteArray} (h : bangB s = true) : unbang s = s.extract 1 s.size := by
  rw [bangB_lib] at h
  apply bytes_ext
  rw [extract_to, unbang, Lib.trimPrefix, if_pos h]
  simp
/-- without the star and the point -/
def unstar (s : ByteArray) : ByteArray := ⟨(Lib.trimPrefix s.data.toList [42, 46]).toArray⟩
theorem hostB_starpoint : hostB ⟨#[42, 46]⟩ = false := hostB_at 0 (by decide) (by decide)
theorem hostB_empty : hostB ⟨#[]⟩ = false := hostB_at 0 (by decide) (by decide)
theorem ruleB_yes {s : ByteArray} (h : bangB s = true) : ruleB s = (hostB (unbang s) && decide (0 ≤ Lib.indexByte (unbang s).data.toList 46)) := by
  rw [ruleB_bang h, unbang_yes h]
  congr 1
  rw [← Lib.contains_iff_indexByte, extract_to, Bool.eq_iff_iff, decide_eq_true_iff, find_mem, List.contains_iff_mem]
  have hp : Lib.hasPrefix s.data.toList [33] = true := by rw [← bangB_lib]; exact h
  unfold Lib.hasPrefix at hp
  obtain ⟨r, hr⟩ := List.isPrefixOf_iff_prefix.1 hp
  rw [← hr]
  simp
theorem ruleB_no {s : ByteArray} (h : bangB s = false) : ruleB s = hostB (unstar s) := by
  have hst := starB_lib s
  cases hp : Lib.hasPrefix s.data.toList [42, 46] with
  | false =>
    rw [hp, Bool.and_false] at hst
    rw [ruleB_host h hst]
    congr 1
    apply bytes_ext
    rw [unstar, Lib.trimPrefix, if_neg (by rw [hp]; decide)]
  | true =>
    rw [hp, Bool.and_true] at hst
    by_cases h2 : 2 < s.size
    · rw [decide_eq_true h2] at hst
      rw [ruleB_star h hst]
      congr 1
      apply bytes_ext
      rw [extract_to, unstar, Lib.trimPrefix, if_pos hp]
      simp
    · rw [decide_eq_false h2] at hst
      rw [ruleB_host h hst]
      have hle : s.data.toList.length ≤ 2 := by rw [← Lib.size_eq]; omega
      unfold Lib.hasPrefix at hp
      have hp2 := List.isPrefixOf_iff_prefix.1 hp
      have e : s.data.toList = [42, 46] := (hp2.eq_of_length_le (by simpa using hle)).symm
      have e1 : s = ⟨#[42, 46]⟩ := bytes_ext (by rw [e])
      have e2 : unstar s = ⟨#[]⟩ := bytes_ext (by rw [unstar, e]; rfl)
      rw [e2, hostB_empty, e1, hostB_starpoint]
theorem unbang_le (s : ByteArray) : (unbang s).size ≤ s.size := by
  have : (unbang s).size = (Lib.trimPrefix s.data.toList [33]).length := by simp [unbang, ByteArray.size]
  rw [this, Lib.size_eq s]
  unfold Lib.trimPrefix
  split
  · rw [List.length_drop]; omega
  · exact Nat.le_refl _
theorem unstar_le (s : ByteArray) : (unstar s).size ≤ s.size := by
  have : (unstar s).size = (Lib.trimPrefix s.data.toList [42, 46]).length := by simp [unstar, ByteArray.size]
  rw [this, Lib.size_eq s]
  unfold Lib.trimPrefix
  split
  · rw [List.length_drop]; omega
  · exact Nat.le_refl _
end Go.Proofs.YtmlacbjlafdenahDoor
