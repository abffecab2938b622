/- 24 of this claim's texts, one behind the other. -/
import Derived.Test.YthcpmbolnmlohaaRows
import Derived.Below
import Derived.WalkKit
import Derived.WalkSpells
import Derived.WalkLawsBesides
import Derived.Laws.CopyOwn
import Derived.Lib.BufferWrite
import Derived.Laws.IdiomStrings
import Derived.Deep.RegionHeld3
import Derived.Laws.ResultCell
import Derived.Deep.SlicePairs
/- Small facts that the walks close with: equal values make equal endings; what lies below a block is as it was. -/
namespace Go.Proofs.Ythcpmbolnmlohaa
open Go.RowKit
theorem ret_bool {a b : Bool} (h : a = b) : Ending.returned (.bool a) = .returned (.bool b) := by rw [h]
theorem val_int {k : IntKind} {a b : Int} (h : a = b) : Value.int k a = .int k b := by rw [h]
theorem ret_int {k : IntKind} {a b : Int} (h : a = b) : Ending.returned (.int k a) = .returned (.int k b) := by rw [h]
theorem ret_text {a b : ByteArray} (h : a = b) : Ending.returned (.string a) = .returned (.string b) := by rw [h]
theorem bcell {W w1 : World} (hb : Below W.heap.size W w1) : (∀ b o, b < W.heap.size → w1.cell? ⟨b, o, none⟩ = W.cell? ⟨b, o, none⟩) ∧ (∀ b o, b < W.heap.size → w1.frozen? ⟨b, o, none⟩ = W.frozen? ⟨b, o, none⟩) :=
  ⟨fun b o h => hb.cell (p := ⟨b, o, none⟩) h, fun b o h => hb.frozen (p := ⟨b, o, none⟩) h⟩
theorem own_shape {w : World} {base n : Nat} {e : TypeId} {v : Value} {xs : List Value} (h : w.ownsRow base e 1 v (n + 1) xs) : ∃ g cap, v = .slice (some ⟨g, 0, none⟩) (n + 1) cap := by
  obtain ⟨_, ⟨_, h0⟩ | ⟨g, cap, _, hv, _⟩⟩ := h
  · omega
  · exact ⟨g, cap, hv⟩
end Go.Proofs.Ythcpmbolnmlohaa

/- What a label and a path of a url are, as plain functions, with the facts that walks close with. -/
namespace Go.Proofs.Ythcpmbolnmlohaa
/-- may the byte stand in a label? -/
def labC (c : Nat) : Bool := decide ((97 ≤ c ∧ c ≤ 122) ∨ (48 ≤ c ∧ c ≤ 57) ∨ c = 45)
def labelB (t : ByteArray) : Bool := decide (1 ≤ t.size ∧ t.size ≤ 12 ∧ (∀ h : 0 < t.size, ¬ t[0].toNat = 45) ∧ (∀ h : t.size - 1 < t.size, ¬ t[t.size - 1].toNat = 45) ∧ ∀ i (h : i < t.size), labC t[i].toNat = true)
theorem labelB_size {t : ByteArray} (h : t.size < 1 ∨ 12 < t.size) : labelB t = false := by
  unfold labelB; rw [decide_eq_false_iff_not]; rintro ⟨a, b, _⟩; omega
theorem labelB_first {t : ByteArray} (h : 0 < t.size) (hc : t[0].toNat = 45) : labelB t = false := by
  unfold labelB; rw [decide_eq_false_iff_not]; rintro ⟨_, _, a, _⟩; exact a h hc
theorem labelB_last {t : ByteArray} (h : t.size - 1 < t.size) (hc : t[t.size - 1].toNat = 45) : labelB t = false := by
  unfold labelB; rw [decide_eq_false_iff_not]; rintro ⟨_, _, _, a, _⟩; exact a h hc
theorem labelB_at {t : ByteArray} (k : Nat) (h : k < t.size) (hk : labC t[k].toNat = false) : labelB t = false := by
  unfold labelB; rw [decide_eq_false_iff_not]; rintro ⟨_, _, _, _, c⟩; rw [c k h] at hk; cases hk
theorem labelB_true {t : ByteArray} (h1 : 1 ≤ t.size) (h2 : t.size ≤ 12) (h3 : ∀ h : 0 < t.size, ¬ t[0].toNat = 45) (h4 : ∀ h : t.size - 1 < t.size, ¬ t[t.size - 1].toNat = 45)
    (h : ∀ i (h : i < t.size), labC t[i].toNat = true) : labelB t = true := by
  unfold labelB; rw [decide_eq_true_iff]; exact ⟨h1, h2, h3, h4, h⟩
theorem labC_yes {c : Nat} (h : (97 ≤ c ∧ c ≤ 122) ∨ (48 ≤ c ∧ c ≤ 57) ∨ c = 45) : labC c = true := by unfold labC; rw [decide_eq_true_iff]; exact h
theorem labC_no {c : Nat} (h : ¬ ((97 ≤ c ∧ c ≤ 122) ∨ (48 ≤ c ∧ c ≤ 57) ∨ c = 45)) : labC c = false := by unfold labC; rw [decide_eq_false_iff_not]; exact h
theorem all_succ {t : ByteArray} {P : Nat → Bool} {k : Nat} (hr : ∀ i (h : i < t.size), i < k → P t[i].toNat = true) (hk : k < t.size) (ho : P t[k].toNat = true) :
    ∀ i (h : i < t.size), i < k + 1 → P t[i].toNat = true := by
  intro i h hi
  by_cases e : i = k
  · subst e; exact ho
  · exact hr i h (by omega)
/-- may the byte stand in a path? -/
def pathC (c : Nat) : Bool := decide (33 ≤ c ∧ c ≤ 126 ∧ ¬ c = 63 ∧ ¬ c = 35 ∧ ¬ c = 59)
def pathB (t : ByteArray) : Bool := decide (1 ≤ t.size ∧ t.size ≤ 40 ∧ (∀ h : 0 < t.size, t[0].toNat = 47) ∧ ∀ i (h : i < t.size), pathC t[i].toNat = true)
theorem pathB_size {t : ByteArray} (h : t.size < 1 ∨ 40 < t.size) : pathB t = false := by
  unfold pathB; rw [decide_eq_false_iff_not]; rintro ⟨a, b, _⟩; omega
theorem pathB_first {t : ByteArray} (h : 0 < t.size) (hc : ¬ t[0].toNat = 47) : pathB t = false := by
  unfold pathB; rw [decide_eq_false_iff_not]; rintro ⟨_, _, a, _⟩; exact hc (a h)
theorem pathB_at {t : ByteArray} (k : Nat) (h : k < t.size) (hk : pathC t[k].toNat = false) : pathB t = false := by
  unfold pathB; rw [decide_eq_false_iff_not]; rintro ⟨_, _, _, c⟩; rw [c k h] at hk; cases hk
theorem pathB_true {t : ByteArray} (h1 : 1 ≤ t.size) (h2 : t.size ≤ 40) (h3 : ∀ h : 0 < t.size, t[0].toNat = 47) (h : ∀ i (h : i < t.size), pathC t[i].toNat = true) : pathB t = true := by
  unfold pathB; rw [decide_eq_true_iff]; exact ⟨h1, h2, h3, h⟩
theorem pathC_yes {c : Nat} (h : 33 ≤ c ∧ c ≤ 126 ∧ ¬ c = 63 ∧ ¬ c = 35 ∧ ¬ c = 59) : pathC c = true := by unfold pathC; rw [decide_eq_true_iff]; exact h
theorem pathC_no {c : Nat} (h : ¬ (33 ≤ c ∧ c ≤ 126 ∧ ¬ c = 63 ∧ ¬ c = 35 ∧ ¬ c = 59)) : pathC c = false := by unfold pathC; rw [decide_eq_false_iff_not]; exact h
end Go.Proofs.Ythcpmbolnmlohaa

/- A text cut at a byte, as a plain function that goes byte by byte; what a host's labels are. -/
namespace Go.Proofs.Ythcpmbolnmlohaa
/-- the cuts among the first i bytes, and where the last one ends -/
def splitTo (s : ByteArray) (c : Nat) : Nat → List ByteArray × Nat
  | 0 => ([], 0)
  | i + 1 => if h : i < s.size then (if s[i].toNat = c then ((splitTo s c i).1 ++ [s.extract (splitTo s c i).2 i], i + 1) else splitTo s c i) else splitTo s c i
def splitB (s : ByteArray) (c : Nat) : List ByteArray := (splitTo s c s.size).1 ++ [s.extract (splitTo s c s.size).2 s.size]
theorem splitTo_hit {s : ByteArray} {c i : Nat} (h : i < s.size) (hc : s[i].toNat = c) : splitTo s c (i + 1) = ((splitTo s c i).1 ++ [s.extract (splitTo s c i).2 i], i + 1) := by
  rw [splitTo, dif_pos h, if_pos hc]
theorem splitTo_miss {s : ByteArray} {c i : Nat} (h : i < s.size) (hc : ¬ s[i].toNat = c) : splitTo s c (i + 1) = splitTo s c i := by
  rw [splitTo, dif_pos h, if_neg hc]
theorem splitTo_le (s : ByteArray) (c i : Nat) : (splitTo s c i).2 ≤ i ∧ (splitTo s c i).1.length ≤ i := by
  induction i with
  | zero => exact ⟨Nat.le_refl _, Nat.le_refl _⟩
  | succ i ih =>
    rw [splitTo]
    split
    · split
      · exact ⟨Nat.le_refl _, by simp; omega⟩
      · exact ⟨by omega, by omega⟩
    · exact ⟨by omega, by omega⟩
theorem splitB_len (s : ByteArray) (c : Nat) : (splitB s c).length ≤ s.size + 1 := by
  have := (splitTo_le s c s.size).2
  unfold splitB; simp; omega
/-- a right host -/
def hostB (s : ByteArray) : Bool := decide (s.size ≤ 100) && (splitB s 46).all labelB && decide ((splitB s 46).length ≤ 6)
theorem hostB_size {s : ByteArray} (h : 100 < s.size) : hostB s = false := by
  unfold hostB; rw [decide_eq_false (by omega)]; rfl
theorem hostB_at {s : ByteArray} (k : Nat) (h : k < (splitB s 46).length) (hl : labelB ((splitB s 46)[k]) = false) : hostB s = false := by
  have : (splitB s 46).all labelB = false := by
    rw [List.all_eq_false]
    exact ⟨_, List.getElem_mem h, by simp [hl]⟩
  unfold hostB; rw [this]; simp
theorem hostB_all {s : ByteArray} (hs : s.size ≤ 100) (h : ∀ k (h : k < (splitB s 46).length), labelB ((splitB s 46)[k]) = true) : hostB s = decide ((splitB s 46).length ≤ 6) := by
  have : (splitB s 46).all labelB = true := by
    rw [List.all_eq_true]
    intro x hx
    obtain ⟨k, hk, rfl⟩ := List.getElem_of_mem hx
    exact h k hk
  unfold hostB; rw [this, decide_eq_true hs]; rfl
theorem splitTo_little (s : ByteArray) (c : Nat) : ∀ i, ∀ x ∈ (splitTo s c i).1, x.size ≤ s.size
  | 0, x, h => by cases h
  | i + 1, x, h => by
    rw [splitTo] at h
    split at h
    · split at h
      · rw [List.mem_append] at h
        rcases h with h | h
        · exact splitTo_little s c i x h
        · rw [List.mem_singleton] at h
          rw [h, ByteArray.size_extract]; omega
      · exact splitTo_little s c i x h
    · exact splitTo_little s c i x h
theorem splitB_small (s : ByteArray) (c : Nat) : ∀ x ∈ splitB s c, x.size ≤ s.size := by
  intro x h
  unfold splitB at h
  rw [List.mem_append, List.mem_singleton] at h
  rcases h with h | h
  · exact splitTo_little s c _ x h
  · rw [h, ByteArray.size_extract]; omega
end Go.Proofs.Ythcpmbolnmlohaa

/- The walks of the specification's l02Label and l02Path. -/
namespace Go.Proofs.Ythcpmbolnmlohaa
open Go.RowKit

end Go.Proofs.Ythcpmbolnmlohaa

/- The walks of the specification's l01Split and HostRight. -/
namespace Go.Proofs.Ythcpmbolnmlohaa
open Go.RowKit

theorem infoStr : (Try.prog.info? 9).map (fun i => (i.zero, i.size, i.bytes)) = some (some (.string ⟨#[]⟩), 1, 16) := by kernel_rfl
/-- the cells of texts -/
def strCells (L : List ByteArray) : List Value := L.map Value.string
theorem strCells_snoc (L : List ByteArray) (x : ByteArray) : strCells L ++ [.string x] = strCells (L ++ [x]) := by simp [strCells]

theorem splitB_ne (s : ByteArray) (c : Nat) : ∃ n, (splitB s c).length = n + 1 := ⟨(splitTo s c s.size).1.length, by simp [splitB]⟩

end Go.Proofs.Ythcpmbolnmlohaa

/- Run equations at rows of bytes that a call makes itself: make, copy from a text, string of a row: each stated at whatever program; the world behind is a letter of which the row and Below are known. -/
namespace Go.Proofs.Ythcpmbolnmlohaa
open Go.RowKit

theorem infoU8 : (Try.prog.info? 5).map (fun i => (i.zero, i.size, i.bytes)) = some (some (.int .u8 0), 1, 1) := by kernel_rfl
theorem sizeU8 : (Try.prog.info? 5).map (·.size) = some 1 := by kernel_rfl

/-- the block g holds the cells L, none of them frozen -/
def RowAt (w : World) (g : Nat) (t : TypeId) (L : List Value) : Prop := w.heap[g]? = some (.cells L.toArray t (0, 0))

theorem make_row {P : Program} (w : World) (t e : TypeId) (z : Value) (h1 : P.underlying t = some (.slice e))
    (hi : (P.info? e).map (fun i => (i.zero, i.size, i.bytes)) = some (some z, 1, 1)) (L : Int) (n : Nat) (hL : L = (n : Int)) (b2 : n ≤ 281474976710656) :
    ∃ w' Z, Sem.run P (Instr.makeSlice t (.int .i64 L) (.int .i64 L)) w = .ok (.slice (some ⟨w.heap.size, 0, none⟩) n n) w' ∧
      RowAt w' w.heap.size e Z ∧ Z.length = n ∧ w'.heap.size = w.heap.size + 1 ∧ Below w.heap.size w w' := by
  obtain ⟨i, h2, h3, h4, h5⟩ := info_parts hi
  subst hL
  have hrun := run_make (P := P) w t e i z h1 h2 h3 .i64 .i64 n n (by omega) (Int.le_refl _) (by rw [h5]; omega) (by omega)
  simp only [Int.toNat_natCast, h4, Nat.mul_one] at hrun
  refine ⟨_, (madeCells z.cells n).toList, hrun, ?_, by simp [size_madeCells], by simp, (Below.refl _ _).alloc (Nat.le_refl _) _⟩
  unfold RowAt; rw [heap_alloc_new]

theorem copy_text {P : Program} (w : World) (dT sT ty elem : TypeId) (hu : P.underlying dT = some (.slice elem)) (hsz : (P.info? elem).map (·.size) = some 1)
    (dp : Option Addr) (dLen dCap : Nat) (x : ByteArray) (hle : x.size ≤ dLen)
    (g off : Nat) (cur : List Value) (t : TypeId) (hg : RowAt w g t cur) (hpos : 0 < x.size → dp = some ⟨g, off, none⟩)
    (hfit : off + x.size ≤ cur.length) :
    ∃ w', Sem.run P (Builtin.copy_ #[dT, sT] ty #[.slice dp dLen dCap, .string x]) w = .ok (goInt x.size) w' ∧
      RowAt w' g t (splice cur off (Lib.byteCells x.data.toList)) ∧ w'.heap.size = w.heap.size ∧ (∀ B w0, Below B w0 w → B ≤ g → Below B w0 w') := by
  by_cases h0 : x.size = 0
  · have hrun := Lib.run_copy_empty_string (P := P) w dT sT ty elem dp dLen dCap x hu (by rw [Option.isSome_iff_exists]; exact ⟨1, hsz⟩) h0
    have hnil : x.data.toList = [] := List.eq_nil_of_length_eq_zero (by rw [← Lib.size_eq]; exact h0)
    exact ⟨w, by rw [hrun, h0]; rfl, by rw [hnil]; simpa [splice, Lib.byteCells] using hg, rfl, fun _ _ h _ => h⟩
  · obtain rfl := hpos (by omega)
    have hrun := Lib.run_copy_row_string (P := P) w dT sT ty elem g off dLen dCap x cur.toArray t hu hsz hg hle (by simpa using hfit)
    refine ⟨_, hrun, ?_, by simp [World.setRow], fun B w0 hb hBg => below_setRow hb hBg _⟩
    have := setRow_heap w g _ (List.take off cur ++ (Lib.byteCells x.data.toList ++ List.drop (off + x.size) cur)).toArray t _ hg
    have hl : (Lib.byteCells x.data.toList).length = x.size := by rw [Lib.byteCells_length, ← Lib.size_eq]
    unfold RowAt splice
    rw [hl]
    simpa using this

theorem row_cell {w : World} {g : Nat} {t : TypeId} {L : List Value} (hg : RowAt w g t L) (j : Nat) : w.cell? ⟨g, j, none⟩ = L[j]? := by
  simp [World.cell?, RowAt] at *
  rw [hg]; simp

/-- string(b), b the first n cells of a row whose first cells are the bytes l -/
theorem text_of_row {P : Program} (w : World) (src dst e : TypeId) (hs : P.underlying src = some (.slice e)) (he : P.underlying e = some (.int .u8)) (hd : P.underlying dst = some .string)
    (g n cap : Nat) (t : TypeId) (l : List UInt8) (more : List Value) (hg : RowAt w g t (Lib.byteCells l ++ more)) (hn : l.length = n) :
    Sem.run P (convert src dst (.slice (some ⟨g, 0, none⟩) n cap)) w = .ok (.string ⟨l.toArray⟩) w := by
  subst hn
  refine run_convert_bytes_back (P := P) w src dst e ⟨g, 0, none⟩ cap l hs he hd ?_
  intro j hj
  have ha : (⟨g, 0, none⟩ : Addr).add j = ⟨g, j, none⟩ := by
    unfold Addr.add; split
    · rename_i h; subst h; rfl
    · simp
  rw [ha, row_cell hg, List.getElem?_append_left (by rw [Lib.byteCells_length]; exact hj)]
  simp [Lib.byteCells, hj]

theorem splice_two {α : Type} (Z X Y : List α) (h : Z.length = X.length + Y.length) : splice (splice Z 0 X) X.length Y = X ++ Y := by
  unfold splice
  simp
  omega
theorem byteCells_append (a b : List UInt8) : Lib.byteCells (a ++ b) = Lib.byteCells a ++ Lib.byteCells b := by simp [Lib.byteCells]
theorem text_append (x y : ByteArray) : (⟨(x.data.toList ++ y.data.toList).toArray⟩ : ByteArray) = x ++ y := by
  apply ByteArray.ext; simp
theorem size_list (l : List UInt8) : (⟨l.toArray⟩ : ByteArray).size = l.length := rfl
theorem len_cells (x : ByteArray) : (Lib.byteCells x.data.toList).length = x.size := by rw [Lib.byteCells_length, ← Lib.size_eq]
end Go.Proofs.Ythcpmbolnmlohaa

/- A number's digits, as a plain function. -/
namespace Go.Proofs.Ythcpmbolnmlohaa
open Go.RowKit
/-- the digits of m, none of 0; f: more than enough rounds -/
def decF : Nat → Nat → List UInt8
  | 0, _ => []
  | f + 1, m => if m = 0 then [] else decF f (m / 10) ++ [UInt8.ofNat (48 + m % 10)]
def decA (m : Nat) : List UInt8 := decF m m
theorem decF_enough (f : Nat) : ∀ g m, m ≤ f → m ≤ g → decF f m = decF g m := by
  induction f with
  | zero =>
    intro g m hf _
    obtain rfl : m = 0 := by omega
    cases g with
    | zero => rfl
    | succ g => rw [decF, decF, if_pos rfl]
  | succ f ih =>
    intro g m hf hg
    cases g with
    | zero =>
      obtain rfl : m = 0 := by omega
      rw [decF, decF, if_pos rfl]
    | succ g =>
      rw [decF, decF]
      split
      · rfl
      · rw [ih g (m / 10) (by omega) (by omega)]
theorem decA_zero : decA 0 = [] := rfl
theorem decA_pos {m : Nat} (h : 0 < m) : decA m = decA (m / 10) ++ [UInt8.ofNat (48 + m % 10)] := by
  unfold decA
  cases m with
  | zero => omega
  | succ m => rw [decF, if_neg (by omega), decF_enough m ((m + 1) / 10) ((m + 1) / 10) (by omega) (by omega)]
theorem decA_len (k : Nat) : ∀ m, m < 10 ^ k → (decA m).length ≤ k := by
  induction k with
  | zero => intro m h; obtain rfl : m = 0 := by simpa using h
            exact Nat.le_refl _
  | succ k ih =>
    intro m h
    by_cases h0 : m = 0
    · subst h0; rw [decA_zero]; simp
    · rw [decA_pos (by omega)]
      have := ih (m / 10) (by rw [Nat.div_lt_iff_lt_mul (by omega)]; rw [Nat.pow_succ] at h; omega)
      simp; omega
theorem decA_twenty {m : Nat} (h : m ≤ 9223372036854775808) : (decA m).length ≤ 20 := decA_len 20 m (Nat.lt_of_le_of_lt h (by decide))
/-- the digits of a number, a sign ahead of one below 0 -/
def decB (n : Int) : ByteArray := if n = 0 then ⟨#[48]⟩ else if n < 0 then ⟨#[45]⟩ ++ ⟨(decA n.natAbs).toArray⟩ else ⟨(decA n.natAbs).toArray⟩
theorem dec_step {m m0 : Nat} {o : List UInt8} (h : decA m ++ o = decA m0) (hm : 0 < m) : decA (m / 10) ++ (UInt8.ofNat (48 + m % 10) :: o) = decA m0 := by
  rw [← h, decA_pos hm]; simp
theorem one_row (k : Nat) (w : World) (t : TypeId) (hk : k < 256) : RowAt (w.alloc (.cells #[.int .u8 (k : Int)] t)) w.heap.size t (Lib.byteCells [UInt8.ofNat k] ++ []) := by
  unfold RowAt; rw [heap_alloc_new]
  simp [Lib.byteCells]
  omega
theorem cons_text (b : UInt8) (o : List UInt8) : (⟨[b].toArray⟩ : ByteArray) ++ ⟨o.toArray⟩ = ⟨(b :: o).toArray⟩ := by
  apply ByteArray.ext; simp
end Go.Proofs.Ythcpmbolnmlohaa

/- The walk of the specification's l01Dec: a number's digits. -/
namespace Go.Proofs.Ythcpmbolnmlohaa
open Go.RowKit
end Go.Proofs.Ythcpmbolnmlohaa

/- Rows of texts that a law reads, marks and reads again; the marks' texts. -/
namespace Go.Proofs.Ythcpmbolnmlohaa
open Go.RowKit

/-- the mark of a number above 0 -/
def markT (k : Nat) : ByteArray := ⟨#[109]⟩ ++ ⟨(decA k).toArray⟩

/-- a slice of n texts, f of each place, that lies from block B on -/
def SliceS (w : World) (B : Nat) (v : Value) (n : Nat) (f : Nat → ByteArray) : Prop :=
  ∃ p cap, v = .slice p n cap ∧ (0 < n → ∃ g, p = some ⟨g, 0, none⟩ ∧ B ≤ g ∧ g < w.heap.size ∧ ∀ j, j < n → w.cell? ⟨g, j, none⟩ = some (.string (f j)) ∧ w.frozen? ⟨g, j, none⟩ = false)
theorem SliceS.below {w w' : World} {B n : Nat} {v : Value} {f : Nat → ByteArray} (h : SliceS w B v n f) (hb : Below w.heap.size w w') : SliceS w' B v n f := by
  obtain ⟨p, cap, rfl, h⟩ := h
  refine ⟨p, cap, rfl, fun hn => ?_⟩
  obtain ⟨g, rfl, hB, hg, hc⟩ := h hn
  have hs := hb.size
  refine ⟨g, rfl, hB, by omega, fun j hj => ⟨?_, ?_⟩⟩
  · rw [(bcell hb).1 _ _ hg]; exact (hc j hj).1
  · rw [(bcell hb).2 _ _ hg]; exact (hc j hj).2
/-- a row below B stays while rows from B on are written -/
theorem SliceS.kept {w w' : World} {B B' n : Nat} {v : Value} {f : Nat → ByteArray} (h : SliceS w B v n f) (hb : Below B' w w') (hlt : ∀ g cap m, v = .slice (some ⟨g, 0, none⟩) m cap → g < B') : SliceS w' B v n f := by
  obtain ⟨p, cap, rfl, h⟩ := h
  refine ⟨p, cap, rfl, fun hn => ?_⟩
  obtain ⟨g, rfl, hB, hg, hc⟩ := h hn
  have hs := hb.size
  have hl := hlt g cap n rfl
  refine ⟨g, rfl, hB, by omega, fun j hj => ⟨?_, ?_⟩⟩
  · rw [hb.cell (p := ⟨g, j, none⟩) hl]; exact (hc j hj).1
  · rw [hb.frozen (p := ⟨g, j, none⟩) hl]; exact (hc j hj).2
theorem SliceS.lt {w : World} {B n : Nat} {v : Value} {f : Nat → ByteArray} (h : SliceS w B v (n + 1) f) : ∀ g cap m, v = .slice (some ⟨g, 0, none⟩) m cap → g < w.heap.size := by
  obtain ⟨p, cap, rfl, h⟩ := h
  obtain ⟨g, rfl, hB, hg, hc⟩ := h (by omega)
  intro g' cap' m e
  injection e with e1
  injection e1 with e1
  injection e1 with e1
  omega
theorem SliceS.mono {w : World} {B B' n : Nat} {v : Value} {f : Nat → ByteArray} (h : SliceS w B v n f) (hB : B' ≤ B) : SliceS w B' v n f := by
  obtain ⟨p, cap, rfl, h⟩ := h
  refine ⟨p, cap, rfl, fun hn => ?_⟩
  obtain ⟨g, rfl, h1, h2⟩ := h hn
  exact ⟨g, rfl, by omega, h2⟩

end Go.Proofs.Ythcpmbolnmlohaa

/- A row of texts that a call owns, as a slice of texts. -/
namespace Go.Proofs.Ythcpmbolnmlohaa
open Go.RowKit

def atL (L : List ByteArray) (j : Nat) : ByteArray := L.getD j ⟨#[]⟩
theorem slice_of_own {w : World} {B : Nat} {t : TypeId} {v : Value} {L : List ByteArray} (h : w.ownsRow B t 1 v L.length (strCells L)) : SliceS w B v L.length (atL L) := by
  obtain ⟨h1, ⟨rfl, h0⟩ | ⟨g, cap, cur, rfl, hg, h3, h4, h5, h6, h7⟩⟩ := h
  · exact ⟨none, 0, by rw [h0], fun h => absurd h (by omega)⟩
  · refine ⟨_, cap, rfl, fun hn => ⟨g, rfl, hg, ?_, fun j hj => ?_⟩⟩
    · exact (Array.getElem?_eq_some_iff.mp h3).1
    · have e : cur[j]? = some (.string (atL L j)) := by
        have e1 : (cur.toList.take (L.length * 1))[j]? = (strCells L)[j]? := by rw [h7]
        rw [List.getElem?_take_of_lt (by omega)] at e1
        rw [← Array.getElem?_toList, e1]
        simp [strCells, atL, hj]
      refine ⟨?_, ?_⟩
      · simp [World.cell?, h3, e]
      · simp [World.frozen?, h3]
theorem own_below {w w' : World} {B n : Nat} {e : TypeId} {v : Value} {xs : List Value} (h : w.ownsRow B e 1 v n xs) (hb : Below w.heap.size w w') : w'.ownsRow B e 1 v n xs := by
  obtain ⟨hl, h0 | ⟨g, cap, cur, rfl, hbg, hh, r⟩⟩ := h
  · exact ⟨hl, .inl h0⟩
  · have hg : g < w.heap.size := (Array.getElem?_eq_some_iff.mp hh).1
    exact ⟨hl, .inr ⟨g, cap, cur, rfl, hbg, by rw [hb.block g hg]; exact hh, r⟩⟩
end Go.Proofs.Ythcpmbolnmlohaa

/- A slice of elements of several cells each. -/
namespace Go.Proofs.Ythcpmbolnmlohaa
open Go.RowKit

/-- a slice of n elements of sz cells each, f of each place and cell, that lies from block B on -/
def SliceR (w : World) (B sz : Nat) (v : Value) (n : Nat) (f : Nat → Nat → Value) : Prop :=
  ∃ p cap, v = .slice p n cap ∧ (0 < n → ∃ g, p = some ⟨g, 0, none⟩ ∧ B ≤ g ∧ g < w.heap.size ∧ ∀ j, j < n → ∀ o, o < sz → w.cell? ⟨g, j * sz + o, none⟩ = some (f j o) ∧ w.frozen? ⟨g, j * sz + o, none⟩ = false)
theorem SliceR.below {w w' : World} {B sz n : Nat} {v : Value} {f : Nat → Nat → Value} (h : SliceR w B sz v n f) (hb : Below w.heap.size w w') : SliceR w' B sz v n f := by
  obtain ⟨p, cap, rfl, h⟩ := h
  refine ⟨p, cap, rfl, fun hn => ?_⟩
  obtain ⟨g, rfl, hB, hg, hc⟩ := h hn
  have hs := hb.size
  refine ⟨g, rfl, hB, by omega, fun j hj o ho => ⟨?_, ?_⟩⟩
  · rw [(bcell hb).1 _ _ hg]; exact (hc j hj o ho).1
  · rw [(bcell hb).2 _ _ hg]; exact (hc j hj o ho).2
/-- a row below B' stays while rows from B' on are written -/
theorem SliceR.kept {w w' : World} {B B' sz n : Nat} {v : Value} {f : Nat → Nat → Value} (h : SliceR w B sz v n f) (hb : Below B' w w') (hlt : 0 < n → ∀ g cap m, v = .slice (some ⟨g, 0, none⟩) m cap → g < B') : SliceR w' B sz v n f := by
  obtain ⟨p, cap, rfl, h⟩ := h
  refine ⟨p, cap, rfl, fun hn => ?_⟩
  obtain ⟨g, rfl, hB, hg, hc⟩ := h hn
  have hs := hb.size
  have hl := hlt hn g cap n rfl
  refine ⟨g, rfl, hB, by omega, fun j hj o ho => ⟨?_, ?_⟩⟩
  · rw [hb.cell (p := ⟨g, j * sz + o, none⟩) hl]; exact (hc j hj o ho).1
  · rw [hb.frozen (p := ⟨g, j * sz + o, none⟩) hl]; exact (hc j hj o ho).2
theorem SliceR.lt {w : World} {B sz n : Nat} {v : Value} {f : Nat → Nat → Value} (h : SliceR w B sz v n f) : 0 < n → ∀ g cap m, v = .slice (some ⟨g, 0, none⟩) m cap → g < w.heap.size := by
  obtain ⟨p, cap, rfl, h⟩ := h
  intro hn
  obtain ⟨g, rfl, hB, hg, hc⟩ := h hn
  intro g' cap' m e
  injection e with e1
  injection e1 with e1
  injection e1 with e1
  omega
theorem SliceR.mono {w : World} {B B' sz n : Nat} {v : Value} {f : Nat → Nat → Value} (h : SliceR w B sz v n f) (hB : B' ≤ B) : SliceR w B' sz v n f := by
  obtain ⟨p, cap, rfl, h⟩ := h
  refine ⟨p, cap, rfl, fun hn => ?_⟩
  obtain ⟨g, rfl, h1, h2⟩ := h hn
  exact ⟨g, rfl, by omega, h2⟩
theorem sliceR_none (w : World) (B sz : Nat) (p : Option Addr) (cap : Nat) (f : Nat → Nat → Value) : SliceR w B sz (.slice p 0 cap) 0 f := ⟨p, cap, rfl, fun h => absurd h (by omega)⟩
/-- a row that is owned, as a slice -/
theorem sliceR_of_own {w : World} {B sz n : Nat} {t : TypeId} {v : Value} {xs : List Value} {f : Nat → Nat → Value} (h : w.ownsRow B t sz v n xs) (hf : ∀ j, j < n → ∀ o, o < sz → xs[j * sz + o]? = some (f j o)) : SliceR w B sz v n f := by
  obtain ⟨h1, ⟨rfl, h0⟩ | ⟨g, cap, cur, rfl, hg, h3, h4, h5, h6, h7⟩⟩ := h
  · exact ⟨.none, 0, by rw [h0], fun h => absurd h (by omega)⟩
  · refine ⟨_, cap, rfl, fun hn => ⟨g, rfl, hg, (Array.getElem?_eq_some_iff.mp h3).1, fun j hj o ho => ?_⟩⟩
    have hlt : j * sz + o < n * sz := by
      have : (j + 1) * sz ≤ n * sz := Nat.mul_le_mul_right sz hj
      rw [Nat.add_mul, Nat.one_mul] at this; omega
    have e : cur[j * sz + o]? = some (f j o) := by
      have e1 : (cur.toList.take (n * sz))[j * sz + o]? = xs[j * sz + o]? := by rw [h7]
      rw [List.getElem?_take_of_lt hlt] at e1
      rw [← Array.getElem?_toList, e1]
      exact hf j hj o ho
    exact ⟨by simp [World.cell?, h3, e], by simp [World.frozen?, h3]⟩
theorem ownR_below {w w' : World} {B n sz : Nat} {e : TypeId} {v : Value} {xs : List Value} (h : w.ownsRow B e sz v n xs) (hb : Below w.heap.size w w') : w'.ownsRow B e sz v n xs := by
  obtain ⟨hl, h0 | ⟨g, cap, cur, rfl, hbg, hh, r⟩⟩ := h
  · exact ⟨hl, .inl h0⟩
  · have hg : g < w.heap.size := (Array.getElem?_eq_some_iff.mp hh).1
    exact ⟨hl, .inr ⟨g, cap, cur, rfl, hbg, by rw [hb.block g hg]; exact hh, r⟩⟩
end Go.Proofs.Ythcpmbolnmlohaa

/- The laws' eqStringS, markStringS, heldStringS. -/
namespace Go.Proofs.Ythcpmbolnmlohaa
open Go.RowKit

end Go.Proofs.Ythcpmbolnmlohaa

/- What the laws do with a Pair besides their calls: its size is looked at, it is handed on field by field, two are held against each other. -/
namespace Go.Proofs.Ythcpmbolnmlohaa
open Go.RowKit

set_option maxRecDepth 10000 in
set_option maxHeartbeats 1000000 in
theorem szPair_at (x0 : ByteArray) (x1 : ByteArray) (l : Int) (w : World) (h0 : x0.size ≤ maxLen) (h1 : x1.size ≤ maxLen) (l0 : 0 ≤ l) (l1 : l ≤ 1048576) :
    Calls Try.prog 13 #[.agg #[.string x0, .string x1], .int .i64 l] w fun e w' => (∃ r : Int, e = .returned (.int .i64 r) ∧ (r < 0 ∨ (0 ≤ r ∧ r ≤ 1048576 ∧ x0.size + x1.size ≤ 1048576))) ∧ Below w.heap.size w w' := by
  unfold maxLen at h0 h1
  by_cases c0 : l < x0.size
  · have q0 : l - (x0.size : Int) < 0 := by omega
    go_enter Try.func13, Try.ntmps13
    go_wp2
    go_ret
    exact ⟨⟨-1, rfl, .inl (by omega)⟩, (Below.refl _ _).alloc (Nat.le_refl _) _⟩
  have q0 : decide (l - (x0.size : Int) < 0) = false := by rw [decide_eq_false_iff_not]; omega
  by_cases c1 : l < x0.size + x1.size
  · have q1 : l - (x0.size : Int) - (x1.size : Int) < 0 := by omega
    go_enter Try.func13, Try.ntmps13
    go_wp2
    go_ret
    exact ⟨⟨-1, rfl, .inl (by omega)⟩, (Below.refl _ _).alloc (Nat.le_refl _) _⟩
  have q1 : decide (l - (x0.size : Int) - (x1.size : Int) < 0) = false := by rw [decide_eq_false_iff_not]; omega
  go_enter Try.func13, Try.ntmps13
  go_wp2
  go_ret
  exact ⟨⟨l - (x0.size : Int) - (x1.size : Int), rfl, .inr ⟨by omega, by omega, by omega⟩⟩, (Below.refl _ _).alloc (Nat.le_refl _) _⟩
set_option maxRecDepth 10000 in
set_option maxHeartbeats 1000000 in
theorem toPair_any (x0 : ByteArray) (x1 : ByteArray) (w : World) :
    Calls Try.prog 16 #[.agg #[.string x0, .string x1]] w fun e w' => e = .returned (.agg #[.string x0, .string x1]) ∧ Below w.heap.size w w' := by
  go_enter Try.func16, Try.ntmps16
  go_wp2
  exact bodyPost_ret (v := .agg #[.string x0, .string x1]) (by simp [results, Try.results16, go_sem]) rfl ⟨rfl, (((Below.refl _ _).alloc (Nat.le_refl _) _).alloc (by simp) _).alloc (by simp; omega) _⟩
set_option maxRecDepth 10000 in
set_option maxHeartbeats 1000000 in
theorem eqPair_any (x0 : ByteArray) (x1 : ByteArray) (w : World) :
    Calls Try.prog 20 #[.agg #[.string x0, .string x1], .agg #[.string x0, .string x1]] w fun e w' => e = .returned (.bool true) ∧ Below w.heap.size w w' := by
  go_enter Try.func20, Try.ntmps20
  go_wp2
  go_ret
  exact ⟨rfl, ((Below.refl _ _).alloc (Nat.le_refl _) _).alloc (by simp) _⟩
end Go.Proofs.Ythcpmbolnmlohaa

/- What the laws do with a slice of Pairs besides their calls. Written by slices.py. -/
namespace Go.Proofs.Ythcpmbolnmlohaa
open Go.RowKit

/-- the mark of each cell -/
def markPairC (q j o : Nat) : Value := .string (markT (q + j * 2 + o))
set_option maxRecDepth 10000 in
set_option maxHeartbeats 4000000 in
theorem eqPairS_any (a b : Value) (n B B' : Nat) (f : Nat → Nat → Value) (x : Nat → Nat → ByteArray) (hf : ∀ j, j < n → ∀ o, o < 2 → f j o = .string (x j o)) (w : World) (ha : SliceR w B 2 a n f) (hb : SliceR w B' 2 b n f) (hn : n ≤ 1048576) :
    Calls Try.prog 11 #[a, b] w fun e w' => e = .returned (.bool true) ∧ Below w.heap.size w w' := by
  obtain ⟨p, cap, rfl, h1⟩ := ha
  obtain ⟨p', cap', rfl, h2⟩ := hb
  have H1 : Hid (0 < n → ∃ g, p = some ⟨g, 0, none⟩ ∧ B ≤ g ∧ g < w.heap.size ∧ ∀ j, j < n → ∀ o, o < 2 → w.cell? ⟨g, j * 2 + o, none⟩ = some (f j o) ∧ w.frozen? ⟨g, j * 2 + o, none⟩ = false) := h1
  have H2 : Hid (0 < n → ∃ g, p' = some ⟨g, 0, none⟩ ∧ B' ≤ g ∧ g < w.heap.size ∧ ∀ j, j < n → ∀ o, o < 2 → w.cell? ⟨g, j * 2 + o, none⟩ = some (f j o) ∧ w.frozen? ⟨g, j * 2 + o, none⟩ = false) := h2
  have HF : Hid (∀ j, j < n → ∀ o, o < 2 → f j o = .string (x j o)) := hf
  clear h1 h2 hf
  go_enter Try.func11, Try.ntmps11
  go_wp2
  go_loopw [5] (fun i wr => ∃ k : Nat, k ≤ n ∧ i = .int .i64 k ∧ Hid (Below w.heap.size w wr)) (fun i _ => n - (intOf i).toNat)
  case atStart => exact ⟨0, by omega, rfl, Below.refl _ _⟩
  case round =>
    obtain ⟨k, hk, rfl, HB⟩ := hrel
    by_cases hlt : k < n
    · obtain ⟨g, rfl, -, hg, hc⟩ := H1.out (by omega)
      obtain ⟨g', rfl, -, hg', hc'⟩ := H2.out (by omega)
      have hgr : g < wr.heap.size := Nat.lt_of_lt_of_le hg HB.out.size
      have hgr' : g' < wr.heap.size := Nat.lt_of_lt_of_le hg' HB.out.size
      have c0 : wr.cell? ⟨g, k * 2, none⟩ = some (.string (x k 0)) := by rw [(bcell HB.out).1 _ _ hg, ← HF.out k hlt 0 (by omega)]; exact (hc k hlt 0 (by omega)).1
      have d0 : wr.cell? ⟨g', k * 2, none⟩ = some (.string (x k 0)) := by rw [(bcell HB.out).1 _ _ hg', ← HF.out k hlt 0 (by omega)]; exact (hc' k hlt 0 (by omega)).1
      have c1 : wr.cell? ⟨g, k * 2 + 1, none⟩ = some (.string (x k 1)) := by rw [(bcell HB.out).1 _ _ hg, ← HF.out k hlt 1 (by omega)]; exact (hc k hlt 1 (by omega)).1
      have d1 : wr.cell? ⟨g', k * 2 + 1, none⟩ = some (.string (x k 1)) := by rw [(bcell HB.out).1 _ _ hg', ← HF.out k hlt 1 (by omega)]; exact (hc' k hlt 1 (by omega)).1
      have k0 : (0 : Int) ≤ k := by omega
      have k1 : (k : Int) < n := by omega
      clear hc hc'
      have KE : Hid (∀ W, Calls Try.prog 20 #[.agg #[.string (x k 0), .string (x k 1)], .agg #[.string (x k 0), .string (x k 1)]] W fun e w' => e = .returned (.bool true) ∧ Below W.heap.size W w') := fun W => eqPair_any (x k 0) (x k 1) W
      generalize x k 0 = y0 at *
      generalize x k 1 = y1 at *
      go_wp2_with fail
      go_region_held3 (fun w' => w'.cell? ⟨g, k * 2, none⟩ = some (.string y0) ∧ w'.cell? ⟨g, k * 2 + 1, none⟩ = some (.string y1) ∧ w'.cell? ⟨g', k * 2, none⟩ = some (.string y0) ∧ w'.cell? ⟨g', k * 2 + 1, none⟩ = some (.string y1)) (go_keep)
        (first | (go_at_call 20; refine (KE.out _).mono ?_; rintro e w2 ⟨rfl, hb2⟩; have A2 : Below wr.heap.size wr w2 := (Below.drew (Below.refl _ _)).trans hb2; have l0 : w2.cell? ⟨g, k * 2, none⟩ = some (.string y0) := ((bcell A2).1 _ _ hgr).trans c0; have l1 : w2.cell? ⟨g, k * 2 + 1, none⟩ = some (.string y1) := ((bcell A2).1 _ _ hgr).trans c1; have m0 : w2.cell? ⟨g', k * 2, none⟩ = some (.string y0) := ((bcell A2).1 _ _ hgr').trans d0; have m1 : w2.cell? ⟨g', k * 2 + 1, none⟩ = some (.string y1) := ((bcell A2).1 _ _ hgr').trans d1))
      all_goals go_wp2
      all_goals go_roundw
      case rel => exact ⟨k + 1, by omega, by go_num, HB.out.trans (A2.mono HB.out.size)⟩
      case measure => simp [intOf]; omega
    · go_wp2
      go_ret
      exact ⟨rfl, HB.out⟩
/-- one cell turned -/
def updR (f : Nat → Nat → Value) (k o : Nat) (u : Value) (j p : Nat) : Value := if j = k ∧ p = o then u else f j p
theorem SliceR.congr {w : World} {B sz n : Nat} {v : Value} {f h : Nat → Nat → Value} (hs : SliceR w B sz v n f) (he : ∀ j, j < n → ∀ o, o < sz → f j o = h j o) : SliceR w B sz v n h := by
  obtain ⟨p, cap, rfl, hg⟩ := hs
  refine ⟨p, cap, rfl, fun hn => ?_⟩
  obtain ⟨g, rfl, hB, hlt, hc⟩ := hg hn
  exact ⟨g, rfl, hB, hlt, fun j hj o ho => by rw [← he j hj o ho]; exact hc j hj o ho⟩
theorem SliceR.set {w : World} {B sz n m g cap : Nat} {f : Nat → Nat → Value} (hs : SliceR w B sz (.slice (some ⟨g, 0, none⟩) m cap) n f) (k o : Nat) (hk : k < n) (ho : o < sz) (u : Value) : SliceR (w.setCell ⟨g, k * sz + o, none⟩ u) B sz (.slice (some ⟨g, 0, none⟩) m cap) n (updR f k o u) := by
  obtain ⟨p, cap', e, hg⟩ := hs
  injection e with e1 e2 e3
  subst e1 e2 e3
  refine ⟨_, _, rfl, fun hn => ?_⟩
  obtain ⟨g', e, hB, hlt, hc⟩ := hg hn
  injection e with e
  injection e with e
  subst e
  refine ⟨g, rfl, hB, by simpa [World.setCell] using hlt, fun j hj p hp => ⟨?_, ?_⟩⟩
  · unfold updR
    by_cases hjp : j = k ∧ p = o
    · rw [if_pos hjp, hjp.1, hjp.2]; exact World.cell?_setCell_same _ _ _ (hc k hk o ho).1
    · rw [if_neg hjp, World.cell?_setCell_other _ _ _ _ (by
        intro h
        injection h with _ h
        apply hjp
        by_cases hjk : j = k
        · subst hjk; exact ⟨rfl, by omega⟩
        · exfalso
          rcases Nat.lt_or_gt_of_ne hjk with hl | hl
          · have : (j + 1) * sz ≤ k * sz := Nat.mul_le_mul_right sz hl
            rw [Nat.add_mul, Nat.one_mul] at this; omega
          · have : (k + 1) * sz ≤ j * sz := Nat.mul_le_mul_right sz hl
            rw [Nat.add_mul, Nat.one_mul] at this; omega)]
      exact (hc j hj p hp).1
  · rw [World.frozen?_setCell]; exact (hc j hj p hp).2
theorem grownG_below {a w w' : World} {G : Nat} (h : a.grownBy w (some G)) (hb : Below w.heap.size w w') : a.grownBy w' (some G) :=
  ⟨hb.os.trans h.os, hb.tape.trans h.tape, hb.output.trans h.output, Nat.le_trans h.size hb.size, fun k hk hne => (hb.block k (Nat.lt_of_lt_of_le hk h.size)).trans (h.block k hk hne)⟩
theorem grownG_set {a w : World} {G : Nat} (h : a.grownBy w (some G)) (o : Nat) (v : Value) : a.grownBy (w.setCell ⟨G, o, none⟩ v) (some G) :=
  ⟨h.os, h.tape, h.output, by simpa [World.setCell] using h.size, fun k hk hne => (Below.heap_setCell _ _ _ _ (fun e => hne (congrArg some e))).trans (h.block k hk hne)⟩
end Go.Proofs.Ythcpmbolnmlohaa

/- What a word is; the walk of the specification's WordRight. -/
namespace Go.Proofs.Ythcpmbolnmlohaa
open Go.RowKit

/-- may the byte stand in a word? -/
def wordC (c : Nat) : Bool := decide ((97 ≤ c ∧ c ≤ 122) ∨ (65 ≤ c ∧ c ≤ 90) ∨ (48 ≤ c ∧ c ≤ 57) ∨ c = 95 ∨ c = 45 ∨ c = 46)
def wordB (t : ByteArray) : Bool := decide (∀ i (h : i < t.size), wordC t[i].toNat = true) && decide (t.size ≤ 20)
theorem wordC_yes {c : Nat} (h : (97 ≤ c ∧ c ≤ 122) ∨ (65 ≤ c ∧ c ≤ 90) ∨ (48 ≤ c ∧ c ≤ 57) ∨ c = 95 ∨ c = 45 ∨ c = 46) : wordC c = true := by unfold wordC; rw [decide_eq_true_iff]; exact h
theorem wordC_no {c : Nat} (h : ¬ ((97 ≤ c ∧ c ≤ 122) ∨ (65 ≤ c ∧ c ≤ 90) ∨ (48 ≤ c ∧ c ≤ 57) ∨ c = 95 ∨ c = 45 ∨ c = 46)) : wordC c = false := by unfold wordC; rw [decide_eq_false_iff_not]; exact h
theorem wordB_at {t : ByteArray} (k : Nat) (h : k < t.size) (hk : wordC t[k].toNat = false) : wordB t = false := by
  unfold wordB; rw [decide_eq_false (fun h' => by rw [h' k h] at hk; cases hk)]; rfl
theorem wordB_all {t : ByteArray} (h : ∀ i (h : i < t.size), wordC t[i].toNat = true) : wordB t = decide (t.size ≤ 20) := by
  unfold wordB; rw [decide_eq_true h]; rfl
theorem wordB_size {t : ByteArray} (h : wordB t = true) : t.size ≤ 20 := by
  unfold wordB at h
  rw [Bool.and_eq_true, decide_eq_true_eq, decide_eq_true_eq] at h
  exact h.2

set_option maxRecDepth 10000 in
set_option maxHeartbeats 2000000 in
theorem specWord_any (t : ByteArray) (w : World) (ht : t.size ≤ 1048576) :
    Calls Try.prog 5 #[.string t] w fun e w' => e = .returned (.bool (wordB t)) ∧ w' = w := by
  have HA : Hid ((∀ k (h : k < t.size), wordC t[k].toNat = false → wordB t = false) ∧ ((∀ i (h : i < t.size), wordC t[i].toNat = true) → wordB t = decide (t.size ≤ 20))) := ⟨fun k h hk => wordB_at k h hk, fun h => wordB_all h⟩
  generalize wordB t = R at *
  go_enter Try.func5, Try.ntmps5
  go_wp2
  go_loop [3, 4] (fun i _ => ∃ k : Nat, k ≤ t.size ∧ i = .int .i64 k ∧ Hid (∀ i (h : i < t.size), i < k → wordC t[i].toNat = true)) (fun i _ => t.size - (intOf i).toNat)
  case atStart => exact ⟨0, Nat.zero_le _, rfl, fun i _ hi => absurd hi (by omega)⟩
  case round =>
    obtain ⟨k, hk, rfl, HR⟩ := hrel
    by_cases hlt : k < t.size
    · rcases (show (t[k].toNat ≤ 44) ∨ (45 ≤ t[k].toNat ∧ t[k].toNat ≤ 45) ∨ (46 ≤ t[k].toNat ∧ t[k].toNat ≤ 46) ∨ (47 ≤ t[k].toNat ∧ t[k].toNat ≤ 47) ∨ (48 ≤ t[k].toNat ∧ t[k].toNat ≤ 57) ∨ (58 ≤ t[k].toNat ∧ t[k].toNat ≤ 64) ∨ (65 ≤ t[k].toNat ∧ t[k].toNat ≤ 90) ∨ (91 ≤ t[k].toNat ∧ t[k].toNat ≤ 94) ∨ (95 ≤ t[k].toNat ∧ t[k].toNat ≤ 95) ∨ (96 ≤ t[k].toNat ∧ t[k].toNat ≤ 96) ∨ (97 ≤ t[k].toNat ∧ t[k].toNat ≤ 122) ∨ (123 ≤ t[k].toNat) by omega)
        with c1 | ⟨c1, c2⟩ | ⟨c1, c2⟩ | ⟨c1, c2⟩ | ⟨c1, c2⟩ | ⟨c1, c2⟩ | ⟨c1, c2⟩ | ⟨c1, c2⟩ | ⟨c1, c2⟩ | ⟨c1, c2⟩ | ⟨c1, c2⟩ | c1
      · have b0 : decide ((97 : Int) ≤ (t[k].toNat : Int)) = false := by rw [decide_eq_false_iff_not]; omega
        have b1 : decide ((t[k].toNat : Int) ≤ 122) = true := by rw [decide_eq_true_iff]; omega
        have b2 : decide ((65 : Int) ≤ (t[k].toNat : Int)) = false := by rw [decide_eq_false_iff_not]; omega
        have b3 : decide ((t[k].toNat : Int) ≤ 90) = true := by rw [decide_eq_true_iff]; omega
        have b4 : decide ((48 : Int) ≤ (t[k].toNat : Int)) = false := by rw [decide_eq_false_iff_not]; omega
        have b5 : decide ((t[k].toNat : Int) ≤ 57) = true := by rw [decide_eq_true_iff]; omega
        have b6 : ((t[k].toNat : Int) == 95) = false := by rw [beq_eq_false_iff_ne]; omega
        have b7 : ((t[k].toNat : Int) == 45) = false := by rw [beq_eq_false_iff_ne]; omega
        have b8 : ((t[k].toNat : Int) == 46) = false := by rw [beq_eq_false_iff_ne]; omega
        have HK : Hid (R = false) := HA.out.1 k hlt (wordC_no (by omega))
        go_wp2
        go_ret
        exact ⟨ret_bool HK.out.symm, rfl⟩
      · have b0 : decide ((97 : Int) ≤ (t[k].toNat : Int)) = false := by rw [decide_eq_false_iff_not]; omega
        have b1 : decide ((t[k].toNat : Int) ≤ 122) = true := by rw [decide_eq_true_iff]; omega
        have b2 : decide ((65 : Int) ≤ (t[k].toNat : Int)) = false := by rw [decide_eq_false_iff_not]; omega
        have b3 : decide ((t[k].toNat : Int) ≤ 90) = true := by rw [decide_eq_true_iff]; omega
        have b4 : decide ((48 : Int) ≤ (t[k].toNat : Int)) = false := by rw [decide_eq_false_iff_not]; omega
        have b5 : decide ((t[k].toNat : Int) ≤ 57) = true := by rw [decide_eq_true_iff]; omega
        have b6 : ((t[k].toNat : Int) == 95) = false := by rw [beq_eq_false_iff_ne]; omega
        have b7 : ((t[k].toNat : Int) == 45) = true := by rw [beq_iff_eq]; omega
        have b8 : ((t[k].toNat : Int) == 46) = false := by rw [beq_eq_false_iff_ne]; omega
        have HK : Hid (wordC t[k].toNat = true) := wordC_yes (by omega)
        go_wp2
        go_round
        case rel => exact ⟨k + 1, by omega, by go_num, all_succ HR.out hlt HK.out⟩
        case measure => simp [intOf]; omega
      · have b0 : decide ((97 : Int) ≤ (t[k].toNat : Int)) = false := by rw [decide_eq_false_iff_not]; omega
        have b1 : decide ((t[k].toNat : Int) ≤ 122) = true := by rw [decide_eq_true_iff]; omega
        have b2 : decide ((65 : Int) ≤ (t[k].toNat : Int)) = false := by rw [decide_eq_false_iff_not]; omega
        have b3 : decide ((t[k].toNat : Int) ≤ 90) = true := by rw [decide_eq_true_iff]; omega
        have b4 : decide ((48 : Int) ≤ (t[k].toNat : Int)) = false := by rw [decide_eq_false_iff_not]; omega
        have b5 : decide ((t[k].toNat : Int) ≤ 57) = true := by rw [decide_eq_true_iff]; omega
        have b6 : ((t[k].toNat : Int) == 95) = false := by rw [beq_eq_false_iff_ne]; omega
        have b7 : ((t[k].toNat : Int) == 45) = false := by rw [beq_eq_false_iff_ne]; omega
        have b8 : ((t[k].toNat : Int) == 46) = true := by rw [beq_iff_eq]; omega
        have HK : Hid (wordC t[k].toNat = true) := wordC_yes (by omega)
        go_wp2
        go_round
        case rel => exact ⟨k + 1, by omega, by go_num, all_succ HR.out hlt HK.out⟩
        case measure => simp [intOf]; omega
      · have b0 : decide ((97 : Int) ≤ (t[k].toNat : Int)) = false := by rw [decide_eq_false_iff_not]; omega
        have b1 : decide ((t[k].toNat : Int) ≤ 122) = true := by rw [decide_eq_true_iff]; omega
        have b2 : decide ((65 : Int) ≤ (t[k].toNat : Int)) = false := by rw [decide_eq_false_iff_not]; omega
        have b3 : decide ((t[k].toNat : Int) ≤ 90) = true := by rw [decide_eq_true_iff]; omega
        have b4 : decide ((48 : Int) ≤ (t[k].toNat : Int)) = false := by rw [decide_eq_false_iff_not]; omega
        have b5 : decide ((t[k].toNat : Int) ≤ 57) = true := by rw [decide_eq_true_iff]; omega
        have b6 : ((t[k].toNat : Int) == 95) = false := by rw [beq_eq_false_iff_ne]; omega
        have b7 : ((t[k].toNat : Int) == 45) = false := by rw [beq_eq_false_iff_ne]; omega
        have b8 : ((t[k].toNat : Int) == 46) = false := by rw [beq_eq_false_iff_ne]; omega
        have HK : Hid (R = false) := HA.out.1 k hlt (wordC_no (by omega))
        go_wp2
        go_ret
        exact ⟨ret_bool HK.out.symm, rfl⟩
      · have b0 : decide ((97 : Int) ≤ (t[k].toNat : Int)) = false := by rw [decide_eq_false_iff_not]; omega
        have b1 : decide ((t[k].toNat : Int) ≤ 122) = true := by rw [decide_eq_true_iff]; omega
        have b2 : decide ((65 : Int) ≤ (t[k].toNat : Int)) = false := by rw [decide_eq_false_iff_not]; omega
        have b3 : decide ((t[k].toNat : Int) ≤ 90) = true := by rw [decide_eq_true_iff]; omega
        have b4 : decide ((48 : Int) ≤ (t[k].toNat : Int)) = true := by rw [decide_eq_true_iff]; omega
        have b5 : decide ((t[k].toNat : Int) ≤ 57) = true := by rw [decide_eq_true_iff]; omega
        have b6 : ((t[k].toNat : Int) == 95) = false := by rw [beq_eq_false_iff_ne]; omega
        have b7 : ((t[k].toNat : Int) == 45) = false := by rw [beq_eq_false_iff_ne]; omega
        have b8 : ((t[k].toNat : Int) == 46) = false := by rw [beq_eq_false_iff_ne]; omega
        have HK : Hid (wordC t[k].toNat = true) := wordC_yes (by omega)
        go_wp2
        go_round
        case rel => exact ⟨k + 1, by omega, by go_num, all_succ HR.out hlt HK.out⟩
        case measure => simp [intOf]; omega
      · have b0 : decide ((97 : Int) ≤ (t[k].toNat : Int)) = false := by rw [decide_eq_false_iff_not]; omega
        have b1 : decide ((t[k].toNat : Int) ≤ 122) = true := by rw [decide_eq_true_iff]; omega
        have b2 : decide ((65 : Int) ≤ (t[k].toNat : Int)) = false := by rw [decide_eq_false_iff_not]; omega
        have b3 : decide ((t[k].toNat : Int) ≤ 90) = true := by rw [decide_eq_true_iff]; omega
        have b4 : decide ((48 : Int) ≤ (t[k].toNat : Int)) = true := by rw [decide_eq_true_iff]; omega
        have b5 : decide ((t[k].toNat : Int) ≤ 57) = false := by rw [decide_eq_false_iff_not]; omega
        have b6 : ((t[k].toNat : Int) == 95) = false := by rw [beq_eq_false_iff_ne]; omega
        have b7 : ((t[k].toNat : Int) == 45) = false := by rw [beq_eq_false_iff_ne]; omega
        have b8 : ((t[k].toNat : Int) == 46) = false := by rw [beq_eq_false_iff_ne]; omega
        have HK : Hid (R = false) := HA.out.1 k hlt (wordC_no (by omega))
        go_wp2
        go_ret
        exact ⟨ret_bool HK.out.symm, rfl⟩
      · have b0 : decide ((97 : Int) ≤ (t[k].toNat : Int)) = false := by rw [decide_eq_false_iff_not]; omega
        have b1 : decide ((t[k].toNat : Int) ≤ 122) = true := by rw [decide_eq_true_iff]; omega
        have b2 : decide ((65 : Int) ≤ (t[k].toNat : Int)) = true := by rw [decide_eq_true_iff]; omega
        have b3 : decide ((t[k].toNat : Int) ≤ 90) = true := by rw [decide_eq_true_iff]; omega
        have b4 : decide ((48 : Int) ≤ (t[k].toNat : Int)) = true := by rw [decide_eq_true_iff]; omega
        have b5 : decide ((t[k].toNat : Int) ≤ 57) = false := by rw [decide_eq_false_iff_not]; omega
        have b6 : ((t[k].toNat : Int) == 95) = false := by rw [beq_eq_false_iff_ne]; omega
        have b7 : ((t[k].toNat : Int) == 45) = false := by rw [beq_eq_false_iff_ne]; omega
        have b8 : ((t[k].toNat : Int) == 46) = false := by rw [beq_eq_false_iff_ne]; omega
        have HK : Hid (wordC t[k].toNat = true) := wordC_yes (by omega)
        go_wp2
        go_round
        case rel => exact ⟨k + 1, by omega, by go_num, all_succ HR.out hlt HK.out⟩
        case measure => simp [intOf]; omega
      · have b0 : decide ((97 : Int) ≤ (t[k].toNat : Int)) = false := by rw [decide_eq_false_iff_not]; omega
        have b1 : decide ((t[k].toNat : Int) ≤ 122) = true := by rw [decide_eq_true_iff]; omega
        have b2 : decide ((65 : Int) ≤ (t[k].toNat : Int)) = true := by rw [decide_eq_true_iff]; omega
        have b3 : decide ((t[k].toNat : Int) ≤ 90) = false := by rw [decide_eq_false_iff_not]; omega
        have b4 : decide ((48 : Int) ≤ (t[k].toNat : Int)) = true := by rw [decide_eq_true_iff]; omega
        have b5 : decide ((t[k].toNat : Int) ≤ 57) = false := by rw [decide_eq_false_iff_not]; omega
        have b6 : ((t[k].toNat : Int) == 95) = false := by rw [beq_eq_false_iff_ne]; omega
        have b7 : ((t[k].toNat : Int) == 45) = false := by rw [beq_eq_false_iff_ne]; omega
        have b8 : ((t[k].toNat : Int) == 46) = false := by rw [beq_eq_false_iff_ne]; omega
        have HK : Hid (R = false) := HA.out.1 k hlt (wordC_no (by omega))
        go_wp2
        go_ret
        exact ⟨ret_bool HK.out.symm, rfl⟩
      · have b0 : decide ((97 : Int) ≤ (t[k].toNat : Int)) = false := by rw [decide_eq_false_iff_not]; omega
        have b1 : decide ((t[k].toNat : Int) ≤ 122) = true := by rw [decide_eq_true_iff]; omega
        have b2 : decide ((65 : Int) ≤ (t[k].toNat : Int)) = true := by rw [decide_eq_true_iff]; omega
        have b3 : decide ((t[k].toNat : Int) ≤ 90) = false := by rw [decide_eq_false_iff_not]; omega
        have b4 : decide ((48 : Int) ≤ (t[k].toNat : Int)) = true := by rw [decide_eq_true_iff]; omega
        have b5 : decide ((t[k].toNat : Int) ≤ 57) = false := by rw [decide_eq_false_iff_not]; omega
        have b6 : ((t[k].toNat : Int) == 95) = true := by rw [beq_iff_eq]; omega
        have b7 : ((t[k].toNat : Int) == 45) = false := by rw [beq_eq_false_iff_ne]; omega
        have b8 : ((t[k].toNat : Int) == 46) = false := by rw [beq_eq_false_iff_ne]; omega
        have HK : Hid (wordC t[k].toNat = true) := wordC_yes (by omega)
        go_wp2
        go_round
        case rel => exact ⟨k + 1, by omega, by go_num, all_succ HR.out hlt HK.out⟩
        case measure => simp [intOf]; omega
      · have b0 : decide ((97 : Int) ≤ (t[k].toNat : Int)) = false := by rw [decide_eq_false_iff_not]; omega
        have b1 : decide ((t[k].toNat : Int) ≤ 122) = true := by rw [decide_eq_true_iff]; omega
        have b2 : decide ((65 : Int) ≤ (t[k].toNat : Int)) = true := by rw [decide_eq_true_iff]; omega
        have b3 : decide ((t[k].toNat : Int) ≤ 90) = false := by rw [decide_eq_false_iff_not]; omega
        have b4 : decide ((48 : Int) ≤ (t[k].toNat : Int)) = true := by rw [decide_eq_true_iff]; omega
        have b5 : decide ((t[k].toNat : Int) ≤ 57) = false := by rw [decide_eq_false_iff_not]; omega
        have b6 : ((t[k].toNat : Int) == 95) = false := by rw [beq_eq_false_iff_ne]; omega
        have b7 : ((t[k].toNat : Int) == 45) = false := by rw [beq_eq_false_iff_ne]; omega
        have b8 : ((t[k].toNat : Int) == 46) = false := by rw [beq_eq_false_iff_ne]; omega
        have HK : Hid (R = false) := HA.out.1 k hlt (wordC_no (by omega))
        go_wp2
        go_ret
        exact ⟨ret_bool HK.out.symm, rfl⟩
      · have b0 : decide ((97 : Int) ≤ (t[k].toNat : Int)) = true := by rw [decide_eq_true_iff]; omega
        have b1 : decide ((t[k].toNat : Int) ≤ 122) = true := by rw [decide_eq_true_iff]; omega
        have b2 : decide ((65 : Int) ≤ (t[k].toNat : Int)) = true := by rw [decide_eq_true_iff]; omega
        have b3 : decide ((t[k].toNat : Int) ≤ 90) = false := by rw [decide_eq_false_iff_not]; omega
        have b4 : decide ((48 : Int) ≤ (t[k].toNat : Int)) = true := by rw [decide_eq_true_iff]; omega
        have b5 : decide ((t[k].toNat : Int) ≤ 57) = false := by rw [decide_eq_false_iff_not]; omega
        have b6 : ((t[k].toNat : Int) == 95) = false := by rw [beq_eq_false_iff_ne]; omega
        have b7 : ((t[k].toNat : Int) == 45) = false := by rw [beq_eq_false_iff_ne]; omega
        have b8 : ((t[k].toNat : Int) == 46) = false := by rw [beq_eq_false_iff_ne]; omega
        have HK : Hid (wordC t[k].toNat = true) := wordC_yes (by omega)
        go_wp2
        go_round
        case rel => exact ⟨k + 1, by omega, by go_num, all_succ HR.out hlt HK.out⟩
        case measure => simp [intOf]; omega
      · have b0 : decide ((97 : Int) ≤ (t[k].toNat : Int)) = true := by rw [decide_eq_true_iff]; omega
        have b1 : decide ((t[k].toNat : Int) ≤ 122) = false := by rw [decide_eq_false_iff_not]; omega
        have b2 : decide ((65 : Int) ≤ (t[k].toNat : Int)) = true := by rw [decide_eq_true_iff]; omega
        have b3 : decide ((t[k].toNat : Int) ≤ 90) = false := by rw [decide_eq_false_iff_not]; omega
        have b4 : decide ((48 : Int) ≤ (t[k].toNat : Int)) = true := by rw [decide_eq_true_iff]; omega
        have b5 : decide ((t[k].toNat : Int) ≤ 57) = false := by rw [decide_eq_false_iff_not]; omega
        have b6 : ((t[k].toNat : Int) == 95) = false := by rw [beq_eq_false_iff_ne]; omega
        have b7 : ((t[k].toNat : Int) == 45) = false := by rw [beq_eq_false_iff_ne]; omega
        have b8 : ((t[k].toNat : Int) == 46) = false := by rw [beq_eq_false_iff_ne]; omega
        have HK : Hid (R = false) := HA.out.1 k hlt (wordC_no (by omega))
        go_wp2
        go_ret
        exact ⟨ret_bool HK.out.symm, rfl⟩
    · have HQ : Hid (R = decide (t.size ≤ 20)) := HA.out.2 (fun i h => HR.out i h (by omega))
      go_wp2
      go_ret
      exact ⟨ret_bool (by rw [HQ.out]; congr 1; exact propext ⟨fun h => by omega, fun h => by omega⟩), rfl⟩
end Go.Proofs.Ythcpmbolnmlohaa

/- The walk of the specification's l04PairRight. -/
namespace Go.Proofs.Ythcpmbolnmlohaa
open Go.RowKit

def pairV (na va : ByteArray) : Value := .agg #[.string na, .string va]
def pairB (na va : ByteArray) : Bool := !na.toList.isEmpty && wordB na && wordB va
set_option maxRecDepth 10000 in
set_option maxHeartbeats 2000000 in
theorem specPairRight_any (na va : ByteArray) (w : World) (hna : na.size ≤ 1048576) (hva : va.size ≤ 1048576) :
    Calls Try.prog 14 #[pairV na va] w fun e w' => e = .returned (.bool (pairB na va)) ∧ Below w.heap.size w w' := by
  have K1 : Hid (∀ W, Calls Try.prog 5 #[.string na] W fun e w' => e = .returned (.bool (wordB na)) ∧ w' = W) := fun W => specWord_any na W hna
  have K2 : Hid (∀ W, Calls Try.prog 5 #[.string va] W fun e w' => e = .returned (.bool (wordB va)) ∧ w' = W) := fun W => specWord_any va W hva
  have HP : Hid (pairB na va = (!na.toList.isEmpty && wordB na && wordB va)) := rfl
  generalize pairB na va = R at *
  generalize wordB na = b1 at *
  generalize wordB va = b2 at *
  unfold pairV
  clear hna hva
  cases he : na.toList.isEmpty with
  | true =>
    have HR : Hid (R = false) := by show _ = _; rw [HP.out, he]; rfl
    go_enter Try.func14, Try.ntmps14
    go_wp2
    go_ret
    exact ⟨ret_bool HR.out.symm, (Below.refl _ _).alloc (Nat.le_refl _) _⟩
  | false =>
    cases b1 with
    | false =>
      have HR : Hid (R = false) := by show _ = _; rw [HP.out, he]; rfl
      go_enter Try.func14, Try.ntmps14
      go_wp2_with fail
      refine (K1.out _).mono ?_
      rintro e w1 ⟨rfl, rfl⟩
      go_wp2
      go_ret
      exact ⟨ret_bool HR.out.symm, (Below.refl _ _).alloc (Nat.le_refl _) _⟩
    | true =>
      have HR : Hid (R = b2) := by show _ = _; rw [HP.out, he]; cases b2 <;> rfl
      go_enter Try.func14, Try.ntmps14
      go_wp2_with fail
      refine (K1.out _).mono ?_
      rintro e w1 ⟨rfl, rfl⟩
      go_wp2_with fail
      refine (K2.out _).mono ?_
      rintro e w2 ⟨rfl, rfl⟩
      go_wp2
      go_ret
      exact ⟨ret_bool HR.out.symm, (Below.refl _ _).alloc (Nat.le_refl _) _⟩
end Go.Proofs.Ythcpmbolnmlohaa

/- The first place of a text in another one, and the number that digits tell, as plain functions. -/
namespace Go.Proofs.Ythcpmbolnmlohaa
/-- does x stand in t at place i? -/
def isAt (t x : ByteArray) (i : Nat) : Bool := (t.extract i (i + x.size)).toList == x.toList
/-- the first place of x in t among the first i ones -/
def findTo (t x : ByteArray) : Nat → Option Nat
  | 0 => none
  | i + 1 => match findTo t x i with
    | some k => some k
    | none => if i + x.size ≤ t.size ∧ isAt t x i = true then some i else none
def findN (t x : ByteArray) : Option Nat := findTo t x (t.size + 1)
/-- as the specification tells it: -1 of none -/
def findI (t x : ByteArray) : Int := match findN t x with | some k => (k : Int) | none => -1
theorem findTo_hit {t x : ByteArray} {i : Nat} (h : findTo t x i = none) (h1 : i + x.size ≤ t.size) (h2 : isAt t x i = true) : findTo t x (i + 1) = some i := by
  rw [findTo, h]; simp [h1, h2]
theorem findTo_miss {t x : ByteArray} {i : Nat} (h : findTo t x i = none) (h2 : ¬ (i + x.size ≤ t.size ∧ isAt t x i = true)) : findTo t x (i + 1) = none := by
  rw [findTo, h]; simp only; rw [if_neg h2]
theorem findTo_keep {t x : ByteArray} {i k : Nat} (h : findTo t x i = some k) (j : Nat) : findTo t x (i + j) = some k := by
  induction j with
  | zero => exact h
  | succ j ih => rw [← Nat.add_assoc, findTo, ih]
theorem findTo_after {t x : ByteArray} {i : Nat} (h : findTo t x i = none) (hi : t.size < i + x.size) (j : Nat) : findTo t x (i + j) = none := by
  induction j with
  | zero => exact h
  | succ j ih => rw [← Nat.add_assoc]; exact findTo_miss ih (by omega)
theorem findTo_lt {t x : ByteArray} {i k : Nat} (h : findTo t x i = some k) : k < i ∧ k + x.size ≤ t.size ∧ isAt t x k = true := by
  induction i with
  | zero => cases h
  | succ i ih =>
    rw [findTo] at h
    cases hf : findTo t x i with
    | some m =>
      rw [hf] at h
      obtain rfl : m = k := by simpa using h
      have := ih hf
      exact ⟨by omega, this.2⟩
    | none =>
      rw [hf] at h
      simp only at h
      split at h
      · rename_i hc
        obtain rfl : i = k := by simpa using h
        exact ⟨by omega, hc⟩
      · cases h
theorem findI_hit {t x : ByteArray} {i : Nat} (h : findTo t x i = none) (h1 : i + x.size ≤ t.size) (h2 : isAt t x i = true) : findI t x = i := by
  have h3 := findTo_keep (findTo_hit h h1 h2) (t.size - i)
  unfold findI findN
  rw [show t.size + 1 = i + 1 + (t.size - i) by omega, h3]
theorem findI_none {t x : ByteArray} {i : Nat} (h : findTo t x i = none) (hi : t.size < i + x.size) (hle : i ≤ t.size + 1) : findI t x = -1 := by
  have h3 := findTo_after h hi (t.size + 1 - i)
  unfold findI findN
  rw [show t.size + 1 = i + (t.size + 1 - i) by omega, h3]
/-- the number of the first i bytes as digits -/
def numTo (t : ByteArray) : Nat → Nat
  | 0 => 0
  | i + 1 => if h : i < t.size then 10 * numTo t i + (t[i].toNat - 48) else numTo t i
theorem numTo_succ {t : ByteArray} {i : Nat} (h : i < t.size) : numTo t (i + 1) = 10 * numTo t i + (t[i].toNat - 48) := by rw [numTo, dif_pos h]
theorem numTo_lt (t : ByteArray) (hd : ∀ i (h : i < t.size), 48 ≤ t[i].toNat ∧ t[i].toNat ≤ 57) (i : Nat) : numTo t i < 10 ^ i := by
  induction i with
  | zero => exact (by decide : 0 < 10 ^ 0)
  | succ i ih =>
    rw [numTo, Nat.pow_succ]
    split
    · rename_i h
      have := hd i h
      omega
    · omega
def digC (c : Nat) : Bool := decide (48 ≤ c ∧ c ≤ 57)
/-- digits that are no number of at most nine of them: -1 -/
def numI (t : ByteArray) : Int := if 1 ≤ t.size ∧ t.size ≤ 9 ∧ (1 < t.size → ∀ h : 0 < t.size, ¬ t[0].toNat = 48) ∧ ∀ i (h : i < t.size), digC t[i].toNat = true then (numTo t t.size : Int) else -1
theorem numI_size {t : ByteArray} (h : t.size < 1 ∨ 9 < t.size) : numI t = -1 := by
  unfold numI; rw [if_neg]; rintro ⟨a, b, _⟩; omega
theorem numI_first {t : ByteArray} (h : 1 < t.size) (hc : t[0].toNat = 48) : numI t = -1 := by
  unfold numI; rw [if_neg]; rintro ⟨_, _, a, _⟩; exact a h (by omega) hc
theorem numI_at {t : ByteArray} (k : Nat) (h : k < t.size) (hk : digC t[k].toNat = false) : numI t = -1 := by
  unfold numI; rw [if_neg]; rintro ⟨_, _, _, c⟩; rw [c k h] at hk; cases hk
theorem numI_yes {t : ByteArray} (h1 : 1 ≤ t.size) (h2 : t.size ≤ 9) (h3 : 1 < t.size → ∀ h : 0 < t.size, ¬ t[0].toNat = 48) (h : ∀ i (h : i < t.size), digC t[i].toNat = true) : numI t = numTo t t.size := by
  unfold numI; rw [if_pos ⟨h1, h2, h3, h⟩]
theorem digC_yes {c : Nat} (h : 48 ≤ c ∧ c ≤ 57) : digC c = true := by unfold digC; rw [decide_eq_true_iff]; exact h
theorem digC_no {c : Nat} (h : ¬ (48 ≤ c ∧ c ≤ 57)) : digC c = false := by unfold digC; rw [decide_eq_false_iff_not]; exact h
theorem digC_of {c : Nat} (h : digC c = true) : 48 ≤ c ∧ c ≤ 57 := by unfold digC at h; rwa [decide_eq_true_iff] at h
end Go.Proofs.Ythcpmbolnmlohaa

/- The walks of the specification's l02Find (from place 0 on) and l02Num. -/
namespace Go.Proofs.Ythcpmbolnmlohaa
open Go.RowKit

end Go.Proofs.Ythcpmbolnmlohaa

/- A text's pieces between '; ', a piece cut at its first '='; the walks of the specification's l04Pieces and l04Pair. -/
namespace Go.Proofs.Ythcpmbolnmlohaa
open Go.RowKit

theorem find_in {t x : ByteArray} (h : 0 ≤ findI t x) : (findI t x).toNat + x.size ≤ t.size ∧ findI t x = ((findI t x).toNat : Int) := by
  refine ⟨?_, by omega⟩
  unfold findI findN at *
  cases hf : findTo t x (t.size + 1) with
  | some k =>
    have := (findTo_lt hf).2.1
    simpa using this
  | none => rw [hf] at h; simp at h
theorem findI_neg {t x : ByteArray} (h : ¬ 0 ≤ findI t x) : findI t x = -1 := by
  unfold findI findN at *
  cases hf : findTo t x (t.size + 1) with
  | some k => rw [hf] at h; simp at h
  | none => rfl
/-- '; ' -/
def semi : ByteArray := ⟨#[59, 32]⟩
/-- the pieces of a text between '; ' -/
def piecesL (t : ByteArray) : List ByteArray :=
  if h : 0 ≤ findI t semi then t.extract 0 (findI t semi).toNat :: piecesL (t.extract ((findI t semi).toNat + 2) t.size) else [t]
termination_by t.size
decreasing_by
  have := (find_in h).1
  have e : semi.size = 2 := rfl
  rw [e] at this
  rw [ByteArray.size_extract]; omega
theorem piecesL_more {t : ByteArray} {k : Nat} (h : findI t semi = k) : piecesL t = t.extract 0 k :: piecesL (t.extract (k + 2) t.size) := by
  rw [piecesL, dif_pos (by omega)]
  have e : (findI t semi).toNat = k := by omega
  rw [e]
theorem piecesL_last {t : ByteArray} (h : ¬ 0 ≤ findI t semi) : piecesL t = [t] := by rw [piecesL, dif_neg h]
theorem piecesL_len (t : ByteArray) : (piecesL t).length ≤ t.size + 1 := by
  generalize hn : t.size = n
  induction n using Nat.strongRecOn generalizing t with
  | _ n ih =>
    by_cases h : 0 ≤ findI t semi
    · obtain ⟨h1, h2⟩ := find_in h
      have e : semi.size = 2 := rfl
      rw [e] at h1
      have hz : (t.extract ((findI t semi).toNat + 2) t.size).size = t.size - ((findI t semi).toNat + 2) := by rw [ByteArray.size_extract]; omega
      rw [piecesL_more h2, List.length_cons]
      have := ih _ (by omega) (t.extract ((findI t semi).toNat + 2) t.size) hz
      omega
    · rw [piecesL_last h]; simp
theorem piecesL_small (t : ByteArray) : ∀ x ∈ piecesL t, x.size ≤ t.size := by
  generalize hn : t.size = n
  induction n using Nat.strongRecOn generalizing t with
  | _ n ih =>
    intro x hx
    by_cases h : 0 ≤ findI t semi
    · obtain ⟨h1, h2⟩ := find_in h
      have e : semi.size = 2 := rfl
      rw [e] at h1
      have hz : (t.extract ((findI t semi).toNat + 2) t.size).size = t.size - ((findI t semi).toNat + 2) := by rw [ByteArray.size_extract]; omega
      rw [piecesL_more h2, List.mem_cons] at hx
      rcases hx with hx | hx
      · rw [hx, ByteArray.size_extract]; omega
      · have := ih _ (by omega) (t.extract ((findI t semi).toNat + 2) t.size) hz x hx
        omega
    · rw [piecesL_last h, List.mem_singleton] at hx
      rw [hx]; omega
def szV : Value → Nat
  | .string s => s.size
  | _ => 0

end Go.Proofs.Ythcpmbolnmlohaa

/- A piece cut at its first '='; the walk of the specification's l04Pair. -/
namespace Go.Proofs.Ythcpmbolnmlohaa
open Go.RowKit

/-- '=' -/
def equ : ByteArray := ⟨#[61]⟩
/-- a piece's name and value -/
def pairP (t : ByteArray) : ByteArray × ByteArray := if 0 ≤ findI t equ then (t.extract 0 (findI t equ).toNat, t.extract ((findI t equ).toNat + 1) t.size) else (t, ⟨#[]⟩)
theorem pairP_yes {t : ByteArray} {k : Nat} (h : findI t equ = k) : pairP t = (t.extract 0 k, t.extract (k + 1) t.size) := by
  have e : (findI t equ).toNat = k := by omega
  rw [pairP, if_pos (by omega), e]
theorem pairP_no {t : ByteArray} (h : ¬ 0 ≤ findI t equ) : pairP t = (t, ⟨#[]⟩) := by rw [pairP, if_neg h]
theorem pairP_size (t : ByteArray) : (pairP t).1.size ≤ t.size ∧ (pairP t).2.size ≤ t.size := by
  unfold pairP
  split
  · exact ⟨by rw [ByteArray.size_extract]; omega, by rw [ByteArray.size_extract]; omega⟩
  · exact ⟨Nat.le_refl _, Nat.zero_le _⟩

end Go.Proofs.Ythcpmbolnmlohaa

/- Plain facts of texts: finding, digits, the bytes of a host. -/
namespace Go.Proofs.Ythcpmbolnmlohaa

theorem isAt_head {t x : ByteArray} {i : Nat} (hx : 0 < x.size) (hi : i + x.size ≤ t.size) (h : isAt t x i = true) : t[i] = x[0] := by
  unfold isAt at h
  rw [beq_iff_eq] at h
  have e : t.extract i (i + x.size) = x := by
    apply ByteArray.ext
    rw [ByteArray.toList_eq, ByteArray.toList_eq] at h
    exact Array.toList_inj.mp h
  have e0 : (t.extract i (i + x.size))[0]'(by rw [e]; exact hx) = x[0] := by simp only [e]
  rw [ByteArray.getElem_extract] at e0
  simpa using e0
theorem findTo_no {t x : ByteArray} (hx : 0 < x.size) (k : Nat) (hno : ∀ i (h : i < t.size), i < k → t[i] ≠ x[0]) : findTo t x k = none := by
  induction k with
  | zero => rfl
  | succ k ih =>
    refine findTo_miss (ih (fun i h hi => hno i h (by omega))) ?_
    rintro ⟨h1, h2⟩
    exact hno k (by omega) (by omega) (isAt_head hx h1 h2)
theorem findN_first {t x : ByteArray} (k : Nat) (hx : 0 < x.size) (hk : k + x.size ≤ t.size) (hat : isAt t x k = true) (hno : ∀ i (h : i < t.size), i < k → t[i] ≠ x[0]) : findN t x = some k := by
  have h := findTo_keep (findTo_hit (findTo_no hx k hno) hk hat) (t.size - k)
  unfold findN
  rw [show t.size + 1 = k + 1 + (t.size - k) by omega, h]
theorem findN_nowhere {t x : ByteArray} (hx : 0 < x.size) (hno : ∀ i (h : i < t.size), t[i] ≠ x[0]) : findN t x = none :=
  findTo_no hx _ (fun i h _ => hno i h)
theorem isAt_mid (a x b : ByteArray) : isAt (a ++ x ++ b) x a.size = true := by
  unfold isAt
  rw [beq_iff_eq]
  congr 1
  have h := ByteArray.extract_append_size_add (a := a) (b := x ++ b) (i := 0) (j := x.size)
  rw [Nat.add_zero] at h
  rw [ByteArray.append_assoc, h]
  exact ByteArray.extract_append_eq_left rfl
theorem findN_mid (a x b : ByteArray) (hx : 0 < x.size) (hno : ∀ i (h : i < a.size), a[i] ≠ x[0]) : findN (a ++ x ++ b) x = some a.size := by
  refine findN_first a.size hx (by rw [ByteArray.size_append, ByteArray.size_append]; omega) (isAt_mid a x b) ?_
  intro i h hi
  rw [ByteArray.getElem_append_left (by rw [ByteArray.size_append]; omega), ByteArray.getElem_append_left hi]
  exact hno i hi

theorem tail_of (a b : ByteArray) (n : Nat) (h : n = a.size) : (a ++ b).extract n (a ++ b).size = b := ByteArray.extract_append_eq_right h ByteArray.size_append
theorem head_of (a b : ByteArray) (n : Nat) (h : n = a.size) : (a ++ b).extract 0 n = a := ByteArray.extract_append_eq_left h

/-- the number that digits tell -/
def numL (l : List UInt8) : Nat := l.foldl (fun n c => 10 * n + (c.toNat - 48)) 0
theorem numL_snoc (l : List UInt8) (d : UInt8) : numL (l ++ [d]) = 10 * numL l + (d.toNat - 48) := by
  unfold numL; rw [List.foldl_append]; rfl
theorem numTo_take (t : ByteArray) (i : Nat) (h : i ≤ t.size) : numTo t i = numL (t.data.toList.take i) := by
  induction i with
  | zero => rfl
  | succ i ih =>
    have hl : i < t.data.toList.length := by simp; omega
    rw [numTo_succ (by omega), ih (by omega), List.take_succ_eq_append_getElem hl, numL_snoc]
    rfl
theorem digit_nat (m : Nat) : (UInt8.ofNat (48 + m % 10)).toNat = 48 + m % 10 := by
  rw [UInt8.toNat_ofNat']
  have : m % 10 < 10 := Nat.mod_lt _ (by decide)
  omega
theorem decA_num (m : Nat) : numL (decA m) = m := by
  induction m using Nat.strongRecOn with
  | _ m ih =>
    by_cases h : m = 0
    · subst h; rfl
    · rw [decA_pos (by omega), numL_snoc, ih (m / 10) (by omega), digit_nat]; omega
theorem decA_dig (m : Nat) : ∀ c ∈ decA m, 48 ≤ c.toNat ∧ c.toNat ≤ 57 := by
  induction m using Nat.strongRecOn with
  | _ m ih =>
    by_cases h : m = 0
    · subst h; intro c hc; cases hc
    · rw [decA_pos (by omega)]
      intro c hc
      rw [List.mem_append] at hc
      rcases hc with hc | hc
      · exact ih (m / 10) (by omega) c hc
      · rw [List.mem_singleton] at hc
        subst hc
        rw [digit_nat]; omega
theorem decA_lead (m : Nat) (h : 0 < m) : ∃ c l, decA m = c :: l ∧ ¬ c.toNat = 48 := by
  induction m using Nat.strongRecOn with
  | _ m ih =>
    by_cases h10 : m < 10
    · rw [decA_pos h, show m / 10 = 0 by omega, decA_zero]
      exact ⟨_, _, rfl, by rw [digit_nat]; omega⟩
    · obtain ⟨c, l, hc, hn⟩ := ih (m / 10) (by omega) (by omega)
      rw [decA_pos h, hc]
      exact ⟨c, _, rfl, hn⟩
theorem decB_back (n : Int) (h1 : 1 ≤ n) (h2 : n ≤ 65535) : numI (decB n) = n := by
  have hd : decB n = ⟨(decA n.natAbs).toArray⟩ := by rw [decB, if_neg (by omega), if_neg (by omega)]
  have hz : (decB n).size = (decA n.natAbs).length := by rw [hd]; rfl
  have hl := decA_len 5 n.natAbs (by omega)
  obtain ⟨c, l, hc, hn⟩ := decA_lead n.natAbs (by omega)
  have hp : 0 < (decA n.natAbs).length := by rw [hc]; simp
  rw [numI_yes (by omega) (by omega)]
  · rw [numTo_take _ _ (Nat.le_refl _), hd]
    show ((numL ((decA n.natAbs).take (decA n.natAbs).length) : Nat) : Int) = n
    rw [List.take_length, decA_num]; omega
  · intro _ h0
    have e : (decB n)[0] = c := by
      simp only [hd]
      show (decA n.natAbs)[0] = c
      simp only [hc]; rfl
    rw [e]; exact hn
  · intro i h
    have e : (decB n)[i] = (decA n.natAbs)[i]'(by omega) := by
      simp only [hd]; rfl
    rw [e]
    exact digC_yes (decA_dig n.natAbs _ (List.getElem_mem _))
theorem decB_dig (n : Int) (h1 : 1 ≤ n) : ∀ i (h : i < (decB n).size), 48 ≤ (decB n)[i].toNat ∧ (decB n)[i].toNat ≤ 57 := by
  have hd : decB n = ⟨(decA n.natAbs).toArray⟩ := by rw [decB, if_neg (by omega), if_neg (by omega)]
  intro i h
  have hz : (decB n).size = (decA n.natAbs).length := by rw [hd]; rfl
  have e : (decB n)[i] = (decA n.natAbs)[i]'(by omega) := by
    simp only [hd]; rfl
  rw [e]
  exact decA_dig n.natAbs _ (List.getElem_mem _)

/-- each byte of a text is the one that it is cut at, or one of a piece's -/
theorem splitTo_bytes (s : ByteArray) (c k : Nat) : ∀ i (h : i < s.size), i < k → s[i].toNat = c ∨ (∃ x ∈ (splitTo s c k).1, ∃ j, ∃ hj : j < x.size, x[j] = s[i]) ∨ (splitTo s c k).2 ≤ i := by
  induction k with
  | zero => intro i _ h; omega
  | succ k ih =>
    intro i h hi
    by_cases hk : k < s.size
    · by_cases hc : s[k].toNat = c
      · rw [splitTo_hit hk hc]
        by_cases e : i = k
        · subst e; exact .inl hc
        · rcases ih i h (by omega) with h1 | ⟨x, hx, hj⟩ | h1
          · exact .inl h1
          · exact .inr (.inl ⟨x, List.mem_append_left _ hx, hj⟩)
          · refine .inr (.inl ⟨_, List.mem_append_right _ (List.mem_singleton.mpr rfl), i - (splitTo s c k).2, ?_, ?_⟩)
            · rw [ByteArray.size_extract]; omega
            · rw [ByteArray.getElem_extract]
              congr 1; omega
      · rw [splitTo_miss hk hc]
        by_cases e : i = k
        · subst e; exact .inr (.inr (splitTo_le s c i).1)
        · exact ih i h (by omega)
    · have e : splitTo s c (k + 1) = splitTo s c k := by rw [splitTo, dif_neg hk]
      rw [e]
      exact ih i h (by omega)
theorem splitB_bytes (s : ByteArray) (c : Nat) : ∀ i (h : i < s.size), s[i].toNat = c ∨ ∃ x ∈ splitB s c, ∃ j, ∃ hj : j < x.size, x[j] = s[i] := by
  intro i h
  rcases splitTo_bytes s c s.size i h h with h1 | ⟨x, hx, hj⟩ | h1
  · exact .inl h1
  · exact .inr ⟨x, List.mem_append_left _ hx, hj⟩
  · refine .inr ⟨_, List.mem_append_right _ (List.mem_singleton.mpr rfl), i - (splitTo s c s.size).2, ?_, ?_⟩
    · rw [ByteArray.size_extract]; omega
    · rw [ByteArray.getElem_extract]
      congr 1; omega
theorem hostB_bytes {s : ByteArray} (h : hostB s = true) : ∀ i (h : i < s.size), ((97 ≤ s[i].toNat ∧ s[i].toNat ≤ 122) ∨ (48 ≤ s[i].toNat ∧ s[i].toNat ≤ 57) ∨ s[i].toNat = 45) ∨ s[i].toNat = 46 := by
  intro i hi
  unfold hostB at h
  simp only [Bool.and_eq_true] at h
  rcases splitB_bytes s 46 i hi with h1 | ⟨x, hx, j, hj, e⟩
  · exact .inr h1
  · refine .inl ?_
    have hl := List.all_eq_true.mp h.1.2 x hx
    unfold labelB at hl
    rw [decide_eq_true_iff] at hl
    have := hl.2.2.2.2 j hj
    rw [e] at this
    unfold labC at this
    rwa [decide_eq_true_iff] at this
theorem ne_of_nat {a b : UInt8} (h : a.toNat ≠ b.toNat) : a ≠ b := fun e => h (by rw [e])
end Go.Proofs.Ythcpmbolnmlohaa

/- Texts with '; ' between, cut apart again: plain facts, no walk. -/
namespace Go.Proofs.Ythcpmbolnmlohaa

theorem findI_mid (a x b : ByteArray) (hx : 0 < x.size) (hno : ∀ i (h : i < a.size), a[i] ≠ x[0]) : findI (a ++ x ++ b) x = a.size := by
  unfold findI; rw [findN_mid a x b hx hno]
theorem findI_nowhere {t x : ByteArray} (hx : 0 < x.size) (hno : ∀ i (h : i < t.size), t[i] ≠ x[0]) : findI t x = -1 := by
  unfold findI; rw [findN_nowhere hx hno]
/-- a text without a byte -/
def Lacks (t : ByteArray) (c : UInt8) : Prop := ∀ i (h : i < t.size), t[i] ≠ c
theorem Lacks.app {a b : ByteArray} {c : UInt8} (h1 : Lacks a c) (h2 : Lacks b c) : Lacks (a ++ b) c := by
  intro i h
  by_cases hi : i < a.size
  · rw [ByteArray.getElem_append_left hi]; exact h1 i hi
  · rw [ByteArray.getElem_append_right (by omega)]; exact h2 _ _
theorem pieces_one {a : ByteArray} (h : Lacks a 59) : piecesL a = [a] := by
  rw [piecesL, dif_neg]
  rw [findI_nowhere (t := a) (x := semi) (by decide) h]; decide
theorem pieces_cons {a : ByteArray} (b : ByteArray) (h : Lacks a 59) : piecesL (a ++ semi ++ b) = a :: piecesL b := by
  have e := findI_mid a semi b (by decide) h
  have s2 : (a ++ semi).size = a.size + 2 := by rw [ByteArray.size_append]; rfl
  rw [piecesL, dif_pos (by rw [e]; omega), e]
  have e0 : ((a.size : Int)).toNat = a.size := by omega
  rw [e0, tail_of (a ++ semi) b _ s2.symm, ByteArray.append_assoc, head_of a _ _ rfl]
theorem pair_mid {a : ByteArray} (b : ByteArray) (h : Lacks a 61) : pairP (a ++ equ ++ b) = (a, b) := by
  have e := findI_mid a equ b (by decide) h
  have s2 : (a ++ equ).size = a.size + 1 := by rw [ByteArray.size_append]; rfl
  rw [pairP_yes e, tail_of (a ++ equ) b _ s2.symm, ByteArray.append_assoc, head_of a _ _ rfl]
theorem pair_nowhere {a : ByteArray} (h : Lacks a 61) : pairP a = (a, ⟨#[]⟩) := by
  refine pairP_no ?_
  rw [findI_nowhere (t := a) (x := equ) (by decide) h]; decide

/-- pieces, each with '; ' ahead -/
def flat : List ByteArray → ByteArray
  | [] => ⟨#[]⟩
  | p :: r => semi ++ p ++ flat r
theorem app_nil (x : ByteArray) : x ++ (⟨#[]⟩ : ByteArray) = x := by apply ByteArray.ext; simp
theorem nil_app (x : ByteArray) : (⟨#[]⟩ : ByteArray) ++ x = x := by apply ByteArray.ext; simp
theorem flat_app (r s : List ByteArray) : flat (r ++ s) = flat r ++ flat s := by
  induction r with
  | nil => exact (nil_app _).symm
  | cons p r ih => show semi ++ p ++ flat (r ++ s) = semi ++ p ++ flat r ++ flat s; rw [ih, ByteArray.append_assoc (a := semi ++ p)]
theorem pieces_flat (p : ByteArray) (r : List ByteArray) (hp : Lacks p 59) (h : ∀ q ∈ r, Lacks q 59) : piecesL (p ++ flat r) = p :: r := by
  induction r generalizing p with
  | nil => rw [flat, app_nil]; exact pieces_one hp
  | cons q r ih =>
    have e : p ++ flat (q :: r) = p ++ semi ++ (q ++ flat r) := by
      show p ++ (semi ++ q ++ flat r) = _
      simp only [ByteArray.append_assoc]
    rw [e, pieces_cons _ hp, ih q (h q (by simp)) (fun x hx => h x (by simp [hx]))]
theorem flat_one (p : ByteArray) : flat [p] = semi ++ p := by show semi ++ p ++ ⟨#[]⟩ = _; rw [app_nil]
end Go.Proofs.Ythcpmbolnmlohaa

/- Pairs, their text, what is read of a text, as plain functions. -/
namespace Go.Proofs.Ythcpmbolnmlohaa
open Go.RowKit

/-- a pair's two cells -/
def pairC (f : Nat → ByteArray × ByteArray) (j o : Nat) : Value := if o = 0 then .string (f j).1 else .string (f j).2
/-- the cells of pairs -/
def pairCells : List (ByteArray × ByteArray) → List Value
  | [] => []
  | p :: L => .string p.1 :: .string p.2 :: pairCells L
def atP (L : List (ByteArray × ByteArray)) (j : Nat) : ByteArray × ByteArray := L.getD j (⟨#[]⟩, ⟨#[]⟩)
theorem pairCells_snoc (L : List (ByteArray × ByteArray)) (p : ByteArray × ByteArray) : pairCells L ++ [.string p.1, .string p.2] = pairCells (L ++ [p]) := by
  induction L with
  | nil => rfl
  | cons q L ih => simp only [pairCells, List.cons_append, ih]
theorem pairCells_len (L : List (ByteArray × ByteArray)) : (pairCells L).length = L.length * 2 := by
  induction L with
  | nil => rfl
  | cons q L ih => simp only [pairCells, List.length_cons, ih]; omega
theorem pairCells_at : ∀ (L : List (ByteArray × ByteArray)) (j : Nat), j < L.length → ∀ o, o < 2 → (pairCells L)[j * 2 + o]? = some (pairC (atP L) j o)
  | [], j, h, _, _ => by simp at h
  | p :: L, 0, _, o, ho => by
    rcases (show o = 0 ∨ o = 1 by omega) with rfl | rfl <;> simp [pairCells, pairC, atP]
  | p :: L, j + 1, h, o, ho => by
    have ih := pairCells_at L j (by simpa using h) o ho
    have e : (j + 1) * 2 + o = (j * 2 + o) + 1 + 1 := by omega
    rw [e, pairCells, List.getElem?_cons_succ, List.getElem?_cons_succ, ih]
    simp [pairC, atP]
/-- pairs as a slice -/
def SliceP (w : World) (B : Nat) (v : Value) (L : List (ByteArray × ByteArray)) : Prop := SliceR w B 2 v L.length (pairC (atP L))
theorem sliceP_of_own {w : World} {B : Nat} {t : TypeId} {v : Value} {L : List (ByteArray × ByteArray)} (h : w.ownsRow B t 2 v L.length (pairCells L)) : SliceP w B v L := sliceR_of_own h (pairCells_at L)

def pairT (p : ByteArray × ByteArray) : ByteArray := p.1 ++ equ ++ p.2
/-- pairs' texts with '; ' between -/
def joinP : List (ByteArray × ByteArray) → ByteArray
  | [] => ⟨#[]⟩
  | p :: L => pairT p ++ flat (L.map pairT)
def pairsB (L : List (ByteArray × ByteArray)) : Bool := decide (L.length ≤ 20) && L.all (fun p => pairB p.1 p.2)
/-- what PairsText tells -/
def pairsT (L : List (ByteArray × ByteArray)) : ByteArray := if pairsB L = true then joinP L else ⟨#[]⟩
/-- what PairsRead tells -/
def pairsGot (t : ByteArray) : List (ByteArray × ByteArray) × Int :=
  if 8000 < t.size then ([], 2) else if t.toList.isEmpty = true then ([], 0) else if ((pairsT ((piecesL t).map pairP)).toList == t.toList) = true then ((piecesL t).map pairP, 0) else ([], 3)
theorem joinP_snoc (L : List (ByteArray × ByteArray)) (p : ByteArray × ByteArray) (h : L ≠ []) : joinP (L ++ [p]) = joinP L ++ semi ++ pairT p := by
  cases L with
  | nil => exact absurd rfl h
  | cons q L =>
    show pairT q ++ flat ((L ++ [p]).map pairT) = pairT q ++ flat (L.map pairT) ++ semi ++ pairT p
    rw [List.map_append, flat_app, List.map_singleton, flat_one]
    simp only [ByteArray.append_assoc]
theorem pairsB_many {L : List (ByteArray × ByteArray)} (h : 20 < L.length) : pairsB L = false := by
  unfold pairsB; rw [decide_eq_false (by omega)]; rfl
theorem atP_eq {L : List (ByteArray × ByteArray)} {k : Nat} (h : k < L.length) : atP L k = L[k] := by simp [atP, h]
theorem pairsB_at {L : List (ByteArray × ByteArray)} (k : Nat) (h : k < L.length) (hk : pairB (atP L k).1 (atP L k).2 = false) : pairsB L = false := by
  have : L.all (fun p => pairB p.1 p.2) = false := by
    rw [List.all_eq_false]
    exact ⟨L[k], List.getElem_mem h, by rw [← atP_eq h, hk]; decide⟩
  unfold pairsB; rw [this, Bool.and_false]
theorem pairsB_all {L : List (ByteArray × ByteArray)} (h20 : L.length ≤ 20) (h : ∀ k, k < L.length → pairB (atP L k).1 (atP L k).2 = true) : pairsB L = true := by
  have : L.all (fun p => pairB p.1 p.2) = true := by
    rw [List.all_eq_true]
    intro p hp
    obtain ⟨k, hk, rfl⟩ := List.getElem_of_mem hp
    rw [← atP_eq hk]; exact h k hk
  unfold pairsB; rw [this, decide_eq_true h20]; rfl
theorem pairB_small {na va : ByteArray} (h : pairB na va = true) : na.size ≤ 20 ∧ va.size ≤ 20 := by
  unfold pairB at h
  rw [Bool.and_eq_true, Bool.and_eq_true] at h
  exact ⟨wordB_size h.1.2, wordB_size h.2⟩
end Go.Proofs.Ythcpmbolnmlohaa

/- A slice of pairs that came in; the laws' szPairS and toPairS over it. -/
namespace Go.Proofs.Ythcpmbolnmlohaa
open Go.RowKit

/-- pairs, f of each place, that a slice leads to -/
def PairRow (w : World) (a : Option Addr) (L : List (ByteArray × ByteArray)) : Prop := ∀ i, i < L.length → ∃ x, a = some x ∧ x.block < w.heap.size ∧ w.cell? (x.add (i * 2)) = some (.string (atP L i).1) ∧ w.cell? (x.add (i * 2 + 1)) = some (.string (atP L i).2) ∧ (atP L i).1.size ≤ maxLen ∧ (atP L i).2.size ≤ maxLen
theorem addr_block (x : Addr) (k : Nat) : (x.add k).block = x.block := by unfold Addr.add; split <;> rfl
theorem PairRow.below {w w' : World} {a : Option Addr} {L : List (ByteArray × ByteArray)} (h : PairRow w a L) (hb : Below w.heap.size w w') : PairRow w' a L := by
  intro i hi
  obtain ⟨x, e, hx, h0, h1, hs⟩ := h i hi
  exact ⟨x, e, Nat.lt_of_lt_of_le hx hb.size, by rw [hb.cell (p := x.add (i * 2)) (by rw [addr_block]; exact hx)]; exact h0, by rw [hb.cell (p := x.add (i * 2 + 1)) (by rw [addr_block]; exact hx)]; exact h1, hs⟩
theorem pairRow_of {H : Type} {enc : TypeId × Value → H} {W : World} {a : Option Addr} {len cap : Nat} {d : DataW H} {p : List MemPlace}
    (h : ∃ fuel, DataW.trod enc Try.prog W 0 (fun _ => true) true fuel 23 (Value.slice a len cap).cells.toList = some (d, p)) : (∃ L, L.length = len ∧ PairRow W a L) ∧ len ≤ maxLen := by
  obtain ⟨fuel, hf⟩ := h
  rcases Go.Deep.open_slice_pairs Try.underlying23 Try.underlying33 (by kernel_rfl) (by kernel_rfl) (by kernel_rfl) (by kernel_rfl) (by kernel_rfl) hf with ⟨hcs, _⟩ | ⟨x, l, c, m, n, V0, V1, D0, D1, P0, P1, hcs, _, hl, hm, hmm, _, hcell⟩
  · simp [Value.cells] at hcs
    obtain ⟨rfl, rfl, rfl⟩ := hcs
    exact ⟨⟨[], rfl, fun i hi => absurd hi (by simp)⟩, Nat.zero_le _⟩
  · simp [Value.cells] at hcs
    obtain ⟨rfl, rfl, rfl⟩ := hcs
    have hmc : m = cap := by simpa using hmm
    have each : ∀ i, i < len → ∃ q : ByteArray × ByteArray, W.cell? (x.add (i * 2)) = some (.string q.1) ∧ W.cell? (x.add (i * 2 + 1)) = some (.string q.2) ∧ q.1.size ≤ maxLen ∧ q.2.size ≤ maxLen := fun i hi => by
      obtain ⟨h0, h1, g0, g1⟩ := hcell i (by omega)
      obtain ⟨s0, e0, -, z0⟩ := DataW.trod_string Try.underlying9 g0
      obtain ⟨s1, e1, -, z1⟩ := DataW.trod_string Try.underlying9 g1
      simp only [List.cons.injEq, and_true] at e0 e1
      exact ⟨(s0, s1), by rw [h0, e0], by rw [h1, e1], z0, z1⟩
    have hx : ∀ i, i < len → ∃ q : ByteArray × ByteArray, W.cell? (x.add (i * 2)) = some (.string q.1) ∧ W.cell? (x.add (i * 2 + 1)) = some (.string q.2) ∧ q.1.size ≤ maxLen ∧ q.2.size ≤ maxLen := each
    obtain ⟨q, hq⟩ : ∃ q : Nat → ByteArray × ByteArray, ∀ i, i < len → W.cell? (x.add (i * 2)) = some (.string (q i).1) ∧ W.cell? (x.add (i * 2 + 1)) = some (.string (q i).2) ∧ (q i).1.size ≤ maxLen ∧ (q i).2.size ≤ maxLen :=
      ⟨fun i => if h : i < len then Classical.choose (hx i h) else (⟨#[]⟩, ⟨#[]⟩), fun i hi => by simp only [dif_pos hi]; exact Classical.choose_spec (hx i hi)⟩
    refine ⟨⟨(List.range len).map q, by simp, fun i hi => ?_⟩, by omega⟩
    have hi' : i < len := by simpa using hi
    have e : atP ((List.range len).map q) i = q i := by simp [atP, hi']
    obtain ⟨h0, h1, h2, h3⟩ := hq i hi'
    rw [e]
    refine ⟨x, rfl, ?_, h0, h1, h2, h3⟩
    have := World.block_lt_of_cell? W _ h0
    rw [addr_block] at this; exact this
set_option maxRecDepth 10000 in
set_option maxHeartbeats 1000000 in
theorem szPairS_any (a : Option Addr) (cap : Nat) (L : List (ByteArray × ByteArray)) (l : Int) (w : World) (hr : PairRow w a L) (hn : L.length ≤ maxLen) (h0 : 0 ≤ l) (h1 : l ≤ 1048576) :
    Calls Try.prog 7 #[.slice a L.length cap, .int .i64 l] w fun e w' => (∃ r : Int, e = .returned (.int .i64 r) ∧ (r < 0 ∨ (0 ≤ r ∧ L.length ≤ 1048576 ∧ ∀ i, i < L.length → (atP L i).1.size ≤ 1048576 ∧ (atP L i).2.size ≤ 1048576))) ∧ Below w.heap.size w w' := by
  unfold maxLen at hn
  by_cases hl : l < L.length
  · have q : decide (l - (L.length : Int) < 0) = true := by rw [decide_eq_true_iff]; omega
    go_enter Try.func7, Try.ntmps7
    go_wp2
    go_ret
    exact ⟨⟨_, rfl, .inl (by decide)⟩, Below.refl _ _⟩
  have q : decide (l - (L.length : Int) < 0) = false := by rw [decide_eq_false_iff_not]; omega
  have HR : Hid (PairRow w a L) := hr
  clear hr
  go_enter Try.func7, Try.ntmps7
  go_wp2
  go_loopw [1, 5] (fun v i wr => ∃ (k : Nat) (z : Int), k ≤ L.length ∧ v = .int .i64 z ∧ i = .int .i64 k ∧ 0 ≤ z ∧ z ≤ 1048576 ∧ Hid (∀ i, i < k → (atP L i).1.size ≤ 1048576 ∧ (atP L i).2.size ≤ 1048576) ∧ Hid (Below w.heap.size w wr)) (fun _ i _ => L.length - (intOf i).toNat)
  case atStart => exact ⟨0, _, Nat.zero_le _, rfl, rfl, by omega, by omega, fun i hi => absurd hi (by omega), Below.refl _ _⟩
  case round =>
    obtain ⟨k, z, hk, rfl, rfl, z0, zl, HS, HB⟩ := hrel
    by_cases hlt : k < L.length
    · obtain ⟨x, rfl, hx, hc0, hc1, hs0, hs1⟩ := HR.out.below HB.out k hlt
      have hc2 : wr.cell? ⟨(x.add (k * 2)).block, (x.add (k * 2)).off + 1, none⟩ = some (.string (atP L k).2) := by rw [← hc1, ← Go.Deep.add_add]; rfl
      have KZ : Hid (∀ W, Calls Try.prog 13 #[.agg #[.string (atP L k).1, .string (atP L k).2], .int .i64 z] W fun e w' => (∃ r : Int, e = .returned (.int .i64 r) ∧ (r < 0 ∨ (0 ≤ r ∧ r ≤ 1048576 ∧ (atP L k).1.size + (atP L k).2.size ≤ 1048576))) ∧ Below W.heap.size W w') := fun W => szPair_at _ _ z W hs0 hs1 z0 zl
      have k0 : (0 : Int) ≤ k := by omega
      have k1 : (k : Int) < L.length := by omega
      clear hs0 hs1
      go_wp2_with fail
      refine (KZ.out _).mono ?_
      rintro e w1 ⟨⟨r, rfl, hr⟩, hb1⟩
      have B1 : Hid (Below w.heap.size w w1) := HB.out.trans (hb1.mono HB.out.size)
      clear hb1
      rcases hr with hr | ⟨r0, r1, hsum⟩
      · have q2 : decide (r < 0) = true := by rw [decide_eq_true_iff]; exact hr
        go_wp2
        go_ret
        exact ⟨⟨_, rfl, .inl (by decide)⟩, B1.out⟩
      · have q2 : decide (r < 0) = false := by rw [decide_eq_false_iff_not]; omega
        have HN : Hid (∀ i, i < k + 1 → (atP L i).1.size ≤ 1048576 ∧ (atP L i).2.size ≤ 1048576) := fun i hi => by
          by_cases e : i = k
          · subst e; omega
          · exact HS.out i (by omega)
        clear hsum
        go_wp2
        go_roundw
        case rel => exact ⟨k + 1, r, by omega, rfl, by go_num, r0, r1, HN, B1⟩
        case measure => simp [intOf]; omega
    · go_wp2
      go_ret
      exact ⟨⟨_, rfl, .inr ⟨z0, by omega, fun i hi => HS.out i (by omega)⟩⟩, HB.out⟩
theorem infoPairT : (Try.prog.info? 35).map (fun i => (i.zero, i.size, i.bytes)) = some (some (.agg #[.string ⟨#[]⟩, .string ⟨#[]⟩]), 2, 32) := by kernel_rfl
/-- the first k as they are, the others empty -/
def uptoP (L : List (ByteArray × ByteArray)) (k j o : Nat) : Value := if j < k then pairC (atP L) j o else .string ⟨#[]⟩
theorem make_pairs (w : World) (n : Nat) (hn : n ≤ 1048576) :
    ∃ w', Sem.run Try.prog (Instr.makeSlice 26 (.int .i64 (n : Int)) (.int .i64 (n : Int))) w = .ok (.slice (some ⟨w.heap.size, 0, none⟩) n n) w' ∧ SliceR w' w.heap.size 2 (.slice (some ⟨w.heap.size, 0, none⟩) n n) n (fun _ _ => .string ⟨#[]⟩) ∧ w.heap.size < w'.heap.size ∧ Below w.heap.size w w' := by
  obtain ⟨i, h2, h3, h4, h5⟩ := info_parts infoPairT
  have hrun := run_make (P := Try.prog) w 26 35 i (.agg #[.string ⟨#[]⟩, .string ⟨#[]⟩]) Try.underlying26 h2 h3 .i64 .i64 n n (by omega) (Int.le_refl _) (by rw [h5]; omega) (by omega)
  simp only [Int.toNat_natCast, h4] at hrun
  refine ⟨_, hrun, ?_, by simp, (Below.refl _ _).alloc (Nat.le_refl _) _⟩
  refine ⟨_, _, rfl, fun _ => ⟨w.heap.size, rfl, Nat.le_refl _, by simp, fun j hj o ho => ⟨?_, by simp⟩⟩⟩
  rw [World.cell?_alloc_new]
  have hz : j * 2 + o < n * 2 := by omega
  have hm : (j * 2 + o) % 2 = o := by omega
  have e : (madeCells (Value.agg #[.string ⟨#[]⟩, .string ⟨#[]⟩]).cells (n * 2))[j * 2 + o]? = some (.string ⟨#[]⟩) := by
    rw [Array.getElem?_eq_some_iff]
    refine ⟨by rw [size_madeCells]; exact hz, ?_⟩
    unfold madeCells
    rw [Array.getElem_map, Array.getElem_range]
    show (#[.string ⟨#[]⟩, .string ⟨#[]⟩] : Array Value)[(j * 2 + o) % 2]! = _
    rw [hm]
    rcases (show o = 0 ∨ o = 1 by omega) with rfl | rfl <;> rfl
  exact e
set_option maxRecDepth 10000 in
set_option maxHeartbeats 1000000 in
theorem toPairS_any (a : Option Addr) (cap : Nat) (L : List (ByteArray × ByteArray)) (w : World) (hr : PairRow w a L) (hn : L.length ≤ 1048576) :
    Calls Try.prog 9 #[.slice a L.length cap] w fun e w' => ∃ v, e = .returned v ∧ SliceP w' w.heap.size v L ∧ Below w.heap.size w w' := by
  have HR : Hid (PairRow w a L) := hr
  clear hr
  obtain ⟨w1, hmk, hs1, hz1, hb1⟩ := make_pairs w L.length hn
  have HS1 : Hid (SliceR w1 w.heap.size 2 (.slice (some ⟨w.heap.size, 0, none⟩) L.length L.length) L.length (uptoP L 0)) := SliceR.congr hs1 (fun j _ o _ => by unfold uptoP; rw [if_neg (by omega)])
  have HB1 : Hid (Below w.heap.size w w1) := hb1
  clear hs1 hb1
  go_enter Try.func9, Try.ntmps9
  go_wp2
  clear hmk
  go_loopw [4] (fun i wr => ∃ k : Nat, k ≤ L.length ∧ i = .int .i64 k ∧ Hid (SliceR wr w.heap.size 2 (.slice (some ⟨w.heap.size, 0, none⟩) L.length L.length) L.length (uptoP L k)) ∧ Hid (Below w.heap.size w wr)) (fun i _ => L.length - (intOf i).toNat)
  case atStart => exact ⟨0, Nat.zero_le _, rfl, HS1, HB1⟩
  case round =>
    obtain ⟨k, hk, rfl, HS, HB⟩ := hrel
    by_cases hlt : k < L.length
    · obtain ⟨x, rfl, hx, hc0, hc1, -, -⟩ := HR.out.below HB.out k hlt
      have hc2 : wr.cell? ⟨(x.add (k * 2)).block, (x.add (k * 2)).off + 1, none⟩ = some (.string (atP L k).2) := by rw [← hc1, ← Go.Deep.add_add]; rfl
      have KT : Hid (∀ W, Calls Try.prog 16 #[.agg #[.string (atP L k).1, .string (atP L k).2]] W fun e w' => e = .returned (.agg #[.string (atP L k).1, .string (atP L k).2]) ∧ Below W.heap.size W w') := fun W => toPair_any _ _ W
      have k0 : (0 : Int) ≤ k := by omega
      have k1 : (k : Int) < L.length := by omega
      go_wp2_with fail
      refine (KT.out _).mono ?_
      rintro e w2 ⟨rfl, hb2⟩
      have S2 : Hid (SliceR w2 w.heap.size 2 (.slice (some ⟨w.heap.size, 0, none⟩) L.length L.length) L.length (uptoP L k)) := SliceR.below HS.out hb2
      have B2 : Hid (Below w.heap.size w w2) := HB.out.trans (hb2.mono HB.out.size)
      clear hb2 hc0 hc1 hc2 hx
      obtain ⟨d0, f0, d1, f1⟩ : w2.cell? ⟨w.heap.size, k * 2, none⟩ = some (uptoP L k k 0) ∧ w2.frozen? ⟨w.heap.size, k * 2, none⟩ = false ∧ w2.cell? ⟨w.heap.size, k * 2 + 1, none⟩ = some (uptoP L k k 1) ∧ w2.frozen? ⟨w.heap.size, k * 2 + 1, none⟩ = false := by
        obtain ⟨p, c, e, hh⟩ := S2.out
        injection e with e1
        obtain ⟨g, e2, -, -, hc⟩ := hh (by omega)
        rw [e2] at e1
        injection e1 with e1
        injection e1 with e1
        subst e1
        exact ⟨(hc k hlt 0 (by omega)).1, (hc k hlt 0 (by omega)).2, (hc k hlt 1 (by omega)).1, (hc k hlt 1 (by omega)).2⟩
      generalize uptoP L k k 0 = z0 at *
      generalize uptoP L k k 1 = z1 at *
      have HN : Hid (SliceR ((w2.setCell ⟨w.heap.size, k * 2 + 0, none⟩ (.string (atP L k).1)).setCell ⟨w.heap.size, k * 2 + 1, none⟩ (.string (atP L k).2)) w.heap.size 2 (.slice (some ⟨w.heap.size, 0, none⟩) L.length L.length) L.length (uptoP L (k + 1))) := by
        refine SliceR.congr (SliceR.set (SliceR.set S2.out k 0 hlt (by omega) _) k 1 hlt (by omega) _) (fun j hj o ho => ?_)
        unfold uptoP
        by_cases e : j = k
        · subst e
          rw [if_pos (Nat.lt_succ_self _)]
          rcases (show o = 0 ∨ o = 1 by omega) with rfl | rfl <;> simp [updR, pairC]
        · by_cases h : j < k
          · rw [if_pos (by omega)]; simp [updR, e, h]
          · rw [if_neg (by omega)]; simp [updR, e, h]
      go_wp2
      go_roundw
      case rel => exact ⟨k + 1, by omega, by go_num, HN, (B2.out.setCell (Nat.le_refl _) _).setCell (Nat.le_refl _) _⟩
      case measure => simp [intOf]; omega
    · go_wp2
      go_ret
      refine ⟨_, rfl, ?_, HB.out⟩
      exact SliceR.congr HS.out (fun j hj o ho => by unfold uptoP; rw [if_pos (by omega)])
theorem pairC_text2 (L : List (ByteArray × ByteArray)) : ∀ j, j < L.length → ∀ o, o < 2 → pairC (atP L) j o = .string (if o = 0 then (atP L j).1 else (atP L j).2) := by
  intro j _ o _
  unfold pairC; split <;> rfl
set_option maxRecDepth 10000 in
set_option maxHeartbeats 1000000 in
theorem lawPairsText_of (w : World) (hI : ∀ (v : Value) (B : Nat) (L : List (ByteArray × ByteArray)) (W : World), SliceP W B v L → L.length ≤ 1048576 → (∀ i, i < L.length → (atP L i).1.size ≤ 1048576 ∧ (atP L i).2.size ≤ 1048576) → Calls Try.prog 10 #[v] W fun e w' => e = .returned (.string (pairsT L)) ∧ Below W.heap.size W w')
    (hP : ∀ (v : Value) (B : Nat) (L : List (ByteArray × ByteArray)) (W : World), SliceP W B v L → L.length ≤ 1048576 → (∀ i, i < L.length → (atP L i).1.size ≤ 1048576 ∧ (atP L i).2.size ≤ 1048576) → Calls Try.prog 8 #[v] W fun e w' => e = .returned (.string (pairsT L)) ∧ Below W.heap.size W w')
    (a : Option Addr) (cap : Nat) (L : List (ByteArray × ByteArray)) (hr : PairRow w a L) (hn : L.length ≤ maxLen) :
    Calls Try.prog 4 #[.slice a L.length cap] w fun e w' => e = .returned (.bool true) ∧ Below w.heap.size w w' := by
  have HR : Hid (PairRow w a L) := hr
  have HI : Hid (∀ (v : Value) (B : Nat) (L : List (ByteArray × ByteArray)) (W : World), SliceP W B v L → L.length ≤ 1048576 → (∀ i, i < L.length → (atP L i).1.size ≤ 1048576 ∧ (atP L i).2.size ≤ 1048576) → Calls Try.prog 10 #[v] W fun e w' => e = .returned (.string (pairsT L)) ∧ Below W.heap.size W w') := hI
  clear hI hr
  go_enter Try.func4, Try.ntmps4
  go_wp2_with fail
  refine (szPairS_any a cap L 1048576 _ HR.out hn (by decide) (by decide)).mono ?_
  rintro e w0 ⟨⟨r, rfl, hr⟩, hb0⟩
  have B0 : Hid (Below w.heap.size w w0) := hb0
  clear hb0
  rcases hr with hr | ⟨r0, hl2, hf⟩
  · go_wp2
    go_ret
    exact ⟨rfl, B0.out⟩
  have q : decide (r < 0) = false := by rw [decide_eq_false_iff_not]; omega
  have HF : Hid (∀ i, i < L.length → (atP L i).1.size ≤ 1048576 ∧ (atP L i).2.size ≤ 1048576) := hf
  clear hf
  go_wp2_with fail
  refine (toPairS_any a cap L _ (HR.out.below B0.out) hl2).mono ?_
  rintro e w1 ⟨v1, rfl, s1, hb1⟩
  have B1 : Hid (Below w.heap.size w w1) := B0.out.trans (hb1.mono B0.out.size)
  clear hb1
  go_wp2_with fail
  refine (hP v1 _ L _ s1 hl2 HF.out).mono ?_
  rintro e w2 ⟨rfl, hb2⟩
  have B2 : Hid (Below w.heap.size w w2) := B1.out.trans (hb2.mono B1.out.size)
  clear hb2 s1
  go_wp2_with fail
  refine (toPairS_any a cap L _ (HR.out.below B2.out) hl2).mono ?_
  rintro e w3 ⟨v3, rfl, s3, hb3⟩
  have B3 : Hid (Below w.heap.size w w3) := B2.out.trans (hb3.mono B2.out.size)
  clear hb3
  go_wp2_with fail
  refine (HI.out v3 _ L _ s3 hl2 HF.out).mono ?_
  rintro e w4 ⟨rfl, hb4⟩
  have s4 := SliceR.below s3 hb4
  have B4 : Hid (Below w.heap.size w w4) := B3.out.trans (hb4.mono B3.out.size)
  clear hb4 s3
  generalize pairsT L = R
  go_wp2_with fail
  refine (toPairS_any a cap L _ (HR.out.below B4.out) hl2).mono ?_
  rintro e w5 ⟨v5, rfl, s5, hb5⟩
  have s45 := SliceR.below s4 hb5
  have B5 : Hid (Below w.heap.size w w5) := B4.out.trans (hb5.mono B4.out.size)
  clear hb5 s4
  go_wp2_with fail
  refine (eqPairS_any v3 v5 L.length _ _ _ _ (pairC_text2 L) _ s45 s5 (by omega)).mono ?_
  rintro e w6 ⟨rfl, hb6⟩
  go_wp2
  go_ret
  exact ⟨rfl, B5.out.trans (hb6.mono B5.out.size)⟩
end Go.Proofs.Ythcpmbolnmlohaa
