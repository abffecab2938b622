/- 2 of this claim's texts, one behind the other. -/
import Derived.Test.YtnpaekjiafaahaaDoorPart1
/- The box of an answer of the functions of frames. -/
namespace Go.Proofs.YtnpaekjiafaahaaDoor
open Go.RowKit

/-- an answer of frames -/
structure FO where
  ar : List Fr
  id : Int
  co : Int
/-- an answer's value -/
def AnsF (w : World) (B : Nat) (v : Value) (x : FO) : Prop := ∃ s, v = .agg #[s, .int .i64 x.id, .int .i64 x.co] ∧ SliceF w B s x.ar
theorem AnsF.below {w w' : World} {B : Nat} {v : Value} {x : FO} (h : AnsF w B v x) (hb : Below w.heap.size w w') : AnsF w' B v x := by
  obtain ⟨s, rfl, hs⟩ := h
  exact ⟨s, rfl, hs.below hb⟩
/-- an empty answer lies in the block -/
structure BoxF (W : World) (b : Nat) : Prop where
  c0 : W.cell? ⟨b, 0, none⟩ = some (.slice none 0 0)
  c1 : W.cell? ⟨b, 1, none⟩ = some (.int .i64 0)
  c2 : W.cell? ⟨b, 2, none⟩ = some (.int .i64 0)
  f0 : W.frozen? ⟨b, 0, none⟩ = false
  f1 : W.frozen? ⟨b, 1, none⟩ = false
  f2 : W.frozen? ⟨b, 2, none⟩ = false
  lt : b < W.heap.size
theorem BoxF.of_block {W W' : World} {b : Nat} (h : BoxF W b) (hb : W'.heap[b]? = W.heap[b]?) (hs : W.heap.size ≤ W'.heap.size) : BoxF W' b :=
  ⟨by rw [World.cell?_of_block (a := ⟨b, 0, none⟩) hb]; exact h.c0, by rw [World.cell?_of_block (a := ⟨b, 1, none⟩) hb]; exact h.c1, by rw [World.cell?_of_block (a := ⟨b, 2, none⟩) hb]; exact h.c2,
   by rw [World.frozen?_of_block (a := ⟨b, 0, none⟩) hb]; exact h.f0, by rw [World.frozen?_of_block (a := ⟨b, 1, none⟩) hb]; exact h.f1, by rw [World.frozen?_of_block (a := ⟨b, 2, none⟩) hb]; exact h.f2, Nat.lt_of_lt_of_le h.lt hs⟩
theorem BoxF.below {W W' : World} {b : Nat} (h : BoxF W b) (hb : Below W.heap.size W W') : BoxF W' b := h.of_block (hb.block b h.lt) hb.size
theorem BoxF.grown {W W' : World} {b G : Nat} (h : BoxF W b) (hg : W.grownBy W' (some G)) (hne : b ≠ G) : BoxF W' b := h.of_block (hg.block b h.lt (fun e => hne (Option.some.inj e))) hg.size
theorem boxF_made (w : World) (t : TypeId) : BoxF (w.alloc (.cells #[.slice none 0 0, .int .i64 0, .int .i64 0] t)) w.heap.size := ⟨by simp, by simp, by simp, by simp, by simp, by simp, by simp⟩
theorem store3F_below {w W : World} {b : Nat} {x y z : Value} (h : Below b w W) : Below b w (((W.setCell ⟨b, 0, none⟩ x).setCell ⟨b, 1, none⟩ y).setCell ⟨b, 2, none⟩ z) :=
  Below.setCell (Below.setCell (Below.setCell h (Nat.le_refl b) _) (Nat.le_refl b) _) (Nat.le_refl b) _
/-- a slice stays while an answer's box below it is written -/
theorem SliceF.store3 {W : World} {b B : Nat} {v x y z : Value} {L : List Fr} (h : SliceF W B v L) (hb : b < B) : SliceF (((W.setCell ⟨b, 0, none⟩ x).setCell ⟨b, 1, none⟩ y).setCell ⟨b, 2, none⟩ z) B v L := by
  have hz : (((W.setCell ⟨b, 0, none⟩ x).setCell ⟨b, 1, none⟩ y).setCell ⟨b, 2, none⟩ z).heap.size = W.heap.size := by simp
  have hk : ∀ k, k ≠ b → (((W.setCell ⟨b, 0, none⟩ x).setCell ⟨b, 1, none⟩ y).setCell ⟨b, 2, none⟩ z).heap[k]? = W.heap[k]? := fun k hk => by
    simp only [World.setCell, Array.getElem?_modify]
    rw [if_neg (Ne.symm hk), if_neg (Ne.symm hk), if_neg (Ne.symm hk)]
  obtain ⟨⟨p, cap, rfl, hg⟩, h2⟩ := h
  refine ⟨⟨p, cap, rfl, fun hn => ?_⟩, h2⟩
  obtain ⟨g, rfl, hB, hgw, hc⟩ := hg hn
  refine ⟨g, rfl, hB, by rw [hz]; exact hgw, fun j hj o ho => ⟨?_, ?_⟩⟩
  · rw [World.cell?_of_block (a := ⟨g, j * 9 + o, none⟩) (hk g (by omega))]; exact (hc j hj o ho).1
  · rw [World.frozen?_of_block (a := ⟨g, j * 9 + o, none⟩) (hk g (by omega))]; exact (hc j hj o ho).2
end Go.Proofs.YtnpaekjiafaahaaDoor

/- FrameOpen as a plain function. Written by implopen.py. -/
namespace Go.Proofs.YtnpaekjiafaahaaDoor
open Go.RowKit

def oneF (L : List Fr) (pa : Int) (sc ho pt : ByteArray) (po : Int) (sb : Bool) : Fr := ⟨lastF L + 1, pa, sc, ho, po, pt, sb, false, 0⟩
def openF (L : List Fr) (pa : Int) (sc ho pt : ByteArray) (po : Int) (sb : Bool) : FO :=
  if 400 < L.length then ⟨[], 0, 2⟩
  else if (framesB L && urlB sc ho pt po && boxF pa sb) = false then ⟨[], 0, 1⟩
  else if holdF L pa = false then ⟨[], 0, 6⟩
  else if L.length = 10 ∨ lastF L = 1000000 then ⟨[], 0, 9⟩
  else ⟨L ++ [oneF L pa sc ho pt po sb], lastF L + 1, 0⟩
theorem openF_size {L : List Fr} {pa : Int} {sc ho pt : ByteArray} {po : Int} {sb : Bool} (h : 400 < L.length) : openF L pa sc ho pt po sb = ⟨[], 0, 2⟩ := by unfold openF; rw [if_pos h]
theorem openF_form {L : List Fr} {pa : Int} {sc ho pt : ByteArray} {po : Int} {sb : Bool} (h : ¬ 400 < L.length) (h1 : (framesB L && urlB sc ho pt po && boxF pa sb) = false) : openF L pa sc ho pt po sb = ⟨[], 0, 1⟩ := by unfold openF; rw [if_neg h, if_pos h1]
theorem openF_none {L : List Fr} {pa : Int} {sc ho pt : ByteArray} {po : Int} {sb : Bool} (h : ¬ 400 < L.length) (h1 : (framesB L && urlB sc ho pt po && boxF pa sb) = true) (h2 : holdF L pa = false) : openF L pa sc ho pt po sb = ⟨[], 0, 6⟩ := by unfold openF; rw [if_neg h, if_neg (by rw [h1]; decide), if_pos h2]
theorem openF_full {L : List Fr} {pa : Int} {sc ho pt : ByteArray} {po : Int} {sb : Bool} (h : ¬ 400 < L.length) (h1 : (framesB L && urlB sc ho pt po && boxF pa sb) = true) (h2 : holdF L pa = true) (h3 : L.length = 10 ∨ lastF L = 1000000) : openF L pa sc ho pt po sb = ⟨[], 0, 9⟩ := by unfold openF; rw [if_neg h, if_neg (by rw [h1]; decide), if_neg (by rw [h2]; decide), if_pos h3]
theorem openF_ok {L : List Fr} {pa : Int} {sc ho pt : ByteArray} {po : Int} {sb : Bool} (h : ¬ 400 < L.length) (h1 : (framesB L && urlB sc ho pt po && boxF pa sb) = true) (h2 : holdF L pa = true) (h3 : L.length ≠ 10) (h4 : lastF L ≠ 1000000) : openF L pa sc ho pt po sb = ⟨L ++ [oneF L pa sc ho pt po sb], lastF L + 1, 0⟩ := by unfold openF; rw [if_neg h, if_neg (by rw [h1]; decide), if_neg (by rw [h2]; decide), if_neg (by omega)]
theorem openF_len (L : List Fr) (pa : Int) (sc ho pt : ByteArray) (po : Int) (sb : Bool) : (openF L pa sc ho pt po sb).ar.length ≤ 11 := by
  unfold openF
  split
  · simp
  · split
    · simp
    · rename_i h
      split
      · simp
      · split
        · simp
        · have h1 : (framesB L && urlB sc ho pt po && boxF pa sb) = true := by
            cases e : (framesB L && urlB sc ho pt po && boxF pa sb) with
            | true => rfl
            | false => exact absurd e h
          rw [Bool.and_eq_true, Bool.and_eq_true] at h1
          have := (framesB_parts h1.1.1).1
          simp; omega
end Go.Proofs.YtnpaekjiafaahaaDoor
