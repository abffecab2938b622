/- 15 of this claim's texts, one behind the other. -/
import Derived.Test.YtimmoclemcnhnaaDoorPart3
import Derived.Test.YtimmoclemcnhnaaDoorPart5
import Derived.Test.YtimmoclemcnhnaaDoorPart1
import Derived.WalkKit
import Derived.LaidEql
import Derived.Stop.Asserts
import Derived.RowKitTokens
import Derived.WalkSpells
import Derived.WalkLawsBesides
import Derived.Laws.ResultCell
import Derived.Deep.RegionHeld3
import Derived.Deep.DeepCutAuto
import Derived.Test.YtimmoclemcnhnaaDoorPart2
import Derived.Test.YtimmoclemcnhnaaDoorRows
import Derived.ChangeSame
import Derived.ChangeVars
import Derived.JoinedOf
import Derived.RowKit
import Derived.LaidLaws
import Derived.LaidHandle
import Derived.Stop.Joined
/- The walks of the program's placeBook, get, put. -/
namespace Go.Proofs.YtimmoclemcnhnaaDoor
open Go.RowKit Go.Maps

theorem ret_bad {a b : Int} (h : a = b) : Ending.returned (.tuple #[.map none, .iface 153 (.agg #[.int .i64 a])]) = .returned (.tuple #[.map none, .iface 153 (.agg #[.int .i64 b])]) := by rw [h]
set_option maxRecDepth 10000 in
set_option maxHeartbeats 8000000 in
theorem placeBook_any (v : Value) (L : List En) (key name value : ByteArray) (B : Nat) (w : World) (hs : SliceE w B v L) (hn : L.length ≤ 1048576) (hz : ∀ i, i < L.length → (atE L i).na.size ≤ 1048576 ∧ (atE L i).va.size ≤ 1048576) (hk : key.size ≤ 1048576) (hna : name.size ≤ 1048576) (hva : value.size ≤ 1048576) :
    Calls Tryd.prog 92 #[v, .string key, .string name, .string value] w fun e w' => ((beginI L key name value = 0 ∧ ∃ bm, e = .returned (.tuple #[.map (some bm), .nilIface]) ∧ w.heap.size ≤ bm ∧ BookL w' bm 16 L) ∨ (beginI L key name value ≠ 0 ∧ e = .returned (.tuple #[.map none, .iface 153 (.agg #[.int .i64 (beginI L key name value)])]))) ∧ Below w.heap.size w w' := by
  have KN : Hid (∀ W, Calls Tryd.prog 139 #[.string name] W fun e w' => e = .returned (.bool (nameB name)) ∧ w' = W) := fun W => implName_any name W (by unfold maxLen; omega)
  have KV : Hid (∀ W, Calls Tryd.prog 140 #[.string value] W fun e w' => e = .returned (.bool (valB value)) ∧ w' = W) := fun W => roomValue_any value W
  have KB : Hid (Calls Tryd.prog 141 #[v, .string key] w fun e w' => (((areaB L && keyB key) = true ∧ ∃ bm, e = .returned (.tuple #[.map (some bm), .nilIface]) ∧ w.heap.size ≤ bm ∧ BookL w' bm 16 L) ∨ ((areaB L && keyB key) = false ∧ e = .returned (.tuple #[.map none, .iface 153 (.agg #[.int .i64 1])]))) ∧ Below w.heap.size w w') := roomBook_any v L key B w hs hn hz
  have HS : Hid ((decide (L.length ≤ 400) && decide (key.size ≤ 8000) && decide (name.size ≤ 8000) && decide (value.size ≤ 8000)) = false → beginI L key name value = 2) := beginI_size
  have HF : Hid ((decide (L.length ≤ 400) && decide (key.size ≤ 8000) && decide (name.size ≤ 8000) && decide (value.size ≤ 8000)) = true → beginI L key name value = if (areaB L && keyB key && nameB name && valB value) = true then 0 else 1) := beginI_fit
  obtain ⟨⟨p, cap, rfl, -⟩, -⟩ := hs
  clear hz
  generalize beginI L key name value = bi at *
  by_cases h1 : L.length ≤ 400
  case neg =>
    have q1 : decide ((400 : Int) < (L.length : Int)) = true := by rw [decide_eq_true_iff]; omega
    have HB : Hid (bi = 2) := HS.out (by rw [decide_eq_false h1]; rfl)
    go_enter Tryd.func92, Tryd.ntmps92
    go_wp2
    go_ret2
    exact ⟨.inr ⟨by rw [HB.out]; decide, ret_bad HB.out.symm⟩, Below.refl _ _⟩
  have q1 : decide ((400 : Int) < (L.length : Int)) = false := by rw [decide_eq_false_iff_not]; omega
  by_cases h2 : key.size ≤ 8000
  case neg =>
    have q2 : decide ((8000 : Int) < (key.size : Int)) = true := by rw [decide_eq_true_iff]; omega
    have HB : Hid (bi = 2) := HS.out (by rw [decide_eq_false h2, Bool.and_false]; rfl)
    go_enter Tryd.func92, Tryd.ntmps92
    go_wp2
    go_ret2
    exact ⟨.inr ⟨by rw [HB.out]; decide, ret_bad HB.out.symm⟩, Below.refl _ _⟩
  have q2 : decide ((8000 : Int) < (key.size : Int)) = false := by rw [decide_eq_false_iff_not]; omega
  by_cases h3 : name.size ≤ 8000
  case neg =>
    have q3 : decide ((8000 : Int) < (name.size : Int)) = true := by rw [decide_eq_true_iff]; omega
    have HB : Hid (bi = 2) := HS.out (by rw [decide_eq_false h3, Bool.and_false]; rfl)
    go_enter Tryd.func92, Tryd.ntmps92
    go_wp2
    go_ret2
    exact ⟨.inr ⟨by rw [HB.out]; decide, ret_bad HB.out.symm⟩, Below.refl _ _⟩
  have q3 : decide ((8000 : Int) < (name.size : Int)) = false := by rw [decide_eq_false_iff_not]; omega
  by_cases h4 : value.size ≤ 8000
  case neg =>
    have q4 : decide ((8000 : Int) < (value.size : Int)) = true := by rw [decide_eq_true_iff]; omega
    have HB : Hid (bi = 2) := HS.out (by rw [decide_eq_false h4, Bool.and_false])
    go_enter Tryd.func92, Tryd.ntmps92
    go_wp2
    go_ret2
    exact ⟨.inr ⟨by rw [HB.out]; decide, ret_bad HB.out.symm⟩, Below.refl _ _⟩
  have q4 : decide ((8000 : Int) < (value.size : Int)) = false := by rw [decide_eq_false_iff_not]; omega
  have HB := HF.out (by rw [decide_eq_true h1, decide_eq_true h2, decide_eq_true h3, decide_eq_true h4]; rfl)
  generalize nameB name = bn at *
  generalize valB value = bv at *
  cases bn with
  | false =>
    have HB1 : Hid (bi = 1) := by show _ = _; rw [HB, Bool.and_false]; rfl
    clear HB HS HF
    go_enter Tryd.func92, Tryd.ntmps92
    go_wp2_with fail
    refine (KN.out _).mono ?_
    rintro e w1 ⟨rfl, rfl⟩
    go_wp2
    go_ret2
    exact ⟨.inr ⟨by rw [HB1.out]; decide, ret_bad HB1.out.symm⟩, Below.refl _ _⟩
  | true =>
  cases bv with
  | false =>
    have HB1 : Hid (bi = 1) := by show _ = _; rw [HB, Bool.and_false]; rfl
    clear HB HS HF
    go_enter Tryd.func92, Tryd.ntmps92
    go_wp2_with fail
    refine (KN.out _).mono ?_
    rintro e w1 ⟨rfl, rfl⟩
    go_wp2_with fail
    refine (KV.out _).mono ?_
    rintro e w1 ⟨rfl, rfl⟩
    go_wp2
    go_ret2
    exact ⟨.inr ⟨by rw [HB1.out]; decide, ret_bad HB1.out.symm⟩, Below.refl _ _⟩
  | true =>
  have HY : Hid ((areaB L && keyB key) = true → bi = 0) := fun h => by rw [HB, h]; rfl
  have HNo : Hid ((areaB L && keyB key) = false → bi = 1) := fun h => by rw [HB, h]; rfl
  clear HB HS HF
  generalize (areaB L && keyB key) = ok at *
  go_enter Tryd.func92, Tryd.ntmps92
  go_wp2_with fail
  refine (KN.out _).mono ?_
  rintro e w1 ⟨rfl, rfl⟩
  go_wp2_with fail
  refine (KV.out _).mono ?_
  rintro e w1 ⟨rfl, rfl⟩
  go_wp2_with fail
  refine KB.out.mono ?_
  rintro e w1 ⟨⟨rfl, bm, rfl, hbm, hm⟩ | ⟨rfl, rfl⟩, hb1⟩
  · have HB1 : Hid (bi = 0) := HY.out rfl
    have HM : Hid (BookL w1 bm 16 L) := hm
    clear hm
    go_wp2
    go_ret2
    exact ⟨.inl ⟨HB1.out, bm, rfl, hbm, HM.out⟩, hb1⟩
  · have HB1 : Hid (bi = 1) := HNo.out rfl
    go_wp2
    go_ret2
    exact ⟨.inr ⟨by rw [HB1.out]; decide, ret_bad HB1.out.symm⟩, hb1⟩
end Go.Proofs.YtimmoclemcnhnaaDoor

/- The walks of the program's get and put. -/
namespace Go.Proofs.YtimmoclemcnhnaaDoor
open Go.RowKit Go.Maps

theorem keyOf_at {key name : ByteArray} (hk : key.size ≤ 200) (hn : name.size ≤ 200) : keyOf Tryd.prog 158 (.agg #[.string key, .string name]) = some (plK key name) := keyOf_place (by unfold maxLen; omega) (by unfold maxLen; omega)
set_option maxRecDepth 10000 in
set_option maxHeartbeats 8000000 in
theorem get_any (bm N : Nat) (L : List En) (key name : ByteArray) (w : World) (hm : BookL w bm N L) (hk : key.size ≤ 200) (hn : name.size ≤ 200) :
    Calls Tryd.prog 99 #[.map (some bm), .string key, .string name] w fun e w' => ((∃ c, seekE L key name = some c ∧ e = .returned (.tuple #[enV c, .nilIface])) ∨ (seekE L key name = none ∧ e = .returned (.tuple #[.agg #[.string ⟨#[]⟩, .string ⟨#[]⟩, .string ⟨#[]⟩], .iface 153 (.agg #[.int .i64 6])]))) ∧ Below w.heap.size w w' := by
  have hone := hm.one
  have hsm := hm.small
  obtain ⟨D, hown, hD1, hD2⟩ := hm
  have hkey := keyOf_at hk hn
  have HX : Hid (∀ c, D.atKey (plK key name) (.held enNone) = .held c → (Maps.has D (plK key name) = true ∧ seekE L key name = some c) ∨ (Maps.has D (plK key name) = false ∧ seekE L key name = none)) := fun c hc => by
    cases hh : Maps.has D (plK key name) with
    | true =>
      obtain ⟨e, he, hke⟩ := hD2 _ hh
      have := (hD1 e he).2.2 (.held enNone)
      rw [hke, hc] at this
      injection this with this
      subst this
      exact .inl ⟨rfl, seekE_some hk hn hsm hone he hke⟩
    | false =>
      refine .inr ⟨rfl, seekE_none hk hn hsm fun e he h => ?_⟩
      have := (hD1 e he).2.1
      rw [h, hh] at this; cases this
  have HO : Hid (w.ownsMap Tryd.prog 158 enElem bm N D) := hown
  clear hown hD1 hD2 hone hsm hk hn
  generalize plK key name = kl at *
  generalize seekE L key name = sk at *
  go_enter Tryd.func99, Tryd.ntmps99
  go_wp2_with (first | (at_lookup; refine wpList_lookup_own_ok _ rfl _ _ 111 rfl 158 108 placeKeyed Tryd.underlying111 enElem (Tryd.zeroValue108 _) (.held enNone) [] rfl bm N D rfl (HO.out.alloc _) _ kl rfl hkey ?_) | go_in)
  intro v ps hv
  obtain ⟨c, hvc, hc⟩ := enElem_inv hv
  have hc1 : D.atKey kl (.held enNone) = .held c := congrArg Prod.fst hc
  have HC := HX.out c hc1
  clear hc hv hc1 HX
  subst hvc
  generalize Maps.has D kl = h at *
  obtain ⟨ke, na, va⟩ := c
  unfold enV
  dsimp only
  rcases HC with ⟨rfl, rfl⟩ | ⟨rfl, rfl⟩
  · go_wp2
    refine bodyPost_ret (v := .tuple #[.agg #[.string ke, .string na, .string va], .nilIface]) (by simp [results, Tryd.results99, go_sem]) rfl ⟨.inl ⟨_, rfl, rfl⟩, ?_⟩
    exact ((Below.refl _ _).alloc (Nat.le_refl _) _).alloc (by simp) _
  · go_wp2
    refine bodyPost_ret (v := .tuple #[.agg #[.string ⟨#[]⟩, .string ⟨#[]⟩, .string ⟨#[]⟩], .iface 153 (.agg #[.int .i64 6])]) (by simp [results, Tryd.results99, go_sem]) rfl ⟨rfl, ?_⟩
    exact ((Below.refl _ _).alloc (Nat.le_refl _) _).alloc (by simp) _
set_option maxRecDepth 10000 in
set_option maxHeartbeats 8000000 in
theorem put_any (bm N : Nat) (L : List En) (x : En) (w : World) (hm : BookL w bm N L) (hN : N ≤ 100) (hr : RiseE L) (hl : L.length ≤ 100) (hx : smallE x) :
    Calls Tryd.prog 94 #[.map (some bm), enV x] w fun e w' => ((areaB (putE L x) = true ∧ e = .returned .nilIface) ∨ (areaB (putE L x) = false ∧ e = .returned (.iface 153 (.agg #[.int .i64 9])))) ∧ BookL w' bm (N + 1) (putE L x) ∧ w.grownBy w' (some bm) := by
  have hsm := hm.small
  have hmem := putE_mem hx hsm
  have hrise := putE_rise hr x
  have hlen := putE_len L x
  have hlt := hm.lt
  obtain ⟨D, hown, hD⟩ := hm
  have hkey := keyOf_E hx
  have HP : Hid (∀ w', w'.ownsMap Tryd.prog 158 enElem bm (N + 1) (D.put (keyE x) (.held x)) → BookL w' bm (N + 1) (putE L x)) := fun w' h => book_put hown.isMap hx hD h hmem
  have KL : Hid (∀ W, BookL W bm (N + 1) (putE L x) → Calls Tryd.prog 95 #[.map (some bm)] W fun e w' => ∃ v, e = .returned v ∧ SliceE w' W.heap.size v (putE L x) ∧ Below W.heap.size W w') := fun W h => list_any bm (N + 1) (putE L x) (putE L x) W (by omega) h hrise (fun _ => Iff.rfl)
  have KA : Hid (∀ (v : Value) (B : Nat) (W : World), BookL W bm (N + 1) (putE L x) → SliceE W B v (putE L x) → Calls Tryd.prog 143 #[v] W fun e w' => e = .returned (.bool (areaB (putE L x))) ∧ Below W.heap.size W w') := fun v B W hb hs => areaRight_any v (putE L x) B W hs (by omega) (fun i hi => by
    have hs2 := hb.small (atE (putE L x) i) (by rw [atE_get hi]; exact List.getElem_mem hi)
    obtain ⟨_, h1, h2⟩ := hs2
    exact ⟨by omega, by omega⟩)
  have HO : Hid (w.ownsMap Tryd.prog 158 enElem bm N D) := hown
  clear hD hown hsm hmem hrise hr
  generalize keyE x = kl at *
  generalize putE L x = M at *
  generalize areaB M = ok at *
  obtain ⟨ke, na, va⟩ := x
  unfold enV
  dsimp only at *
  have hel : enElem (.agg #[.string ke, .string na, .string va]) = some (.held ⟨ke, na, va⟩, []) := rfl
  go_enter Tryd.func94, Tryd.ntmps94
  go_wp2_with (at_mapUpdate; go_must (refine wpList_mapUpdate_own _ rfl _ _ _ 111 rfl 158 108 placeKeyed Tryd.underlying111 _ bm N D rfl (HO.out.alloc _) (by unfold maxLen; omega) _ _ kl rfl rfl hkey _ [] hel ?_); intro w3 hown3 hg3)
  have G3 : Hid (w.grownBy w3 (some bm)) := (World.grownBy_alloc w _ (some bm)).andThen hg3 (fun j hj => .inr hj)
  have M3 : Hid (BookL w3 bm (N + 1) M) := HP.out _ hown3
  clear hown3 hg3 HP HO hel hkey
  go_wp2_with fail
  refine (KL.out _ M3.out).mono ?_
  rintro e w4 ⟨v4, rfl, hs4, hb4⟩
  have M4 : Hid (BookL w4 bm (N + 1) M) := M3.out.below hb4
  have S4 : Hid (SliceE w4 w3.heap.size v4 M) := hs4
  have G4 : Hid (w.grownBy w4 (some bm)) := G3.out.andThen (row' := none) ⟨hb4.os, hb4.tape, hb4.output, hb4.size, fun i hi _ => hb4.block i hi⟩ (fun j hj => by cases hj)
  clear hs4 hb4 M3 G3 KL
  go_wp2_with fail
  refine (KA.out _ _ _ M4.out S4.out).mono ?_
  rintro e w5 ⟨rfl, hb5⟩
  have M5 : Hid (BookL w5 bm (N + 1) M) := M4.out.below hb5
  have G5 : Hid (w.grownBy w5 (some bm)) := G4.out.andThen (row' := none) ⟨hb5.os, hb5.tape, hb5.output, hb5.size, fun i hi _ => hb5.block i hi⟩ (fun j hj => by cases hj)
  clear hb5 KA M4 G4 S4
  cases ok with
  | true =>
    go_wp2
    go_ret
    exact ⟨rfl, M5.out, G5.out⟩
  | false =>
    go_wp2
    go_ret
    exact ⟨rfl, M5.out, G5.out⟩
end Go.Proofs.YtimmoclemcnhnaaDoor

/- The library's variable errors.errorType, as a walk wants it. -/
namespace Go.Proofs.YtimmoclemcnhnaaDoor
open Go.RowKit

def ErrTy (w : World) : Prop := w.cell? ⟨0, 0, none⟩ = some (.iface 215 (.agg #[.pointer (some ⟨4, 113, none⟩)]))
theorem ErrTy.on {w W : World} (h : ErrTy w) (hb : Below w.heap.size w W) : ErrTy W := by
  unfold ErrTy at *
  rw [hb.cell (p := ⟨0, 0, none⟩) (cell_in h)]; exact h
end Go.Proofs.YtimmoclemcnhnaaDoor

/- errors.As at the target *wrongArea, by its contract: the error's own type is the target's element type: true, and the target is set. (After the guide's worked example of errors.As at a concrete target.) -/
namespace Go.Proofs.YtimmoclemcnhnaaDoor
open Go.RowKit Go.Extern.Stop Go.Stop Go.Extern

theorem AsArea.valueOfT (t : Addr) (w : World) : (ReflectliteValue.unpack (.iface 156 (.pointer (some t)))).run Tryd.prog w
    = .ok (.agg #[.pointer (some ⟨4, 156, none⟩), .pointer (some ⟨w.heap.size, 0, none⟩), .int .u64 150]) (w.alloc (.cells #[.pointer (some t)] 156)) := by kernel_rfl
theorem AsArea.typeT (a : Addr) (w : World) : (ReflectliteValue.methodAny (ReflectliteValue.valueError "reflectlite.Value.Type" 0) (fun t _ _ _ => ReflectliteType.toType t) #[.agg #[.pointer (some ⟨4, 156, none⟩), .pointer (some a), .int .u64 150]]).run Tryd.prog w
    = .ok (.iface 215 (.agg #[.pointer (some ⟨4, 156, none⟩)])) w := by kernel_rfl
theorem AsArea.methodKind (h : Value) (w : World) : (Go.method 373 215 (.agg #[h]) "Kind").run Tryd.prog w = .ok (245, h) w := by kernel_rfl
theorem AsArea.kindT (w : World) : ((ReflectliteType.abiMethod fun t => (fun a : Nat => Value.int IntKind.u8 (a : Int)) <$> Rtype.kind t) #[.pointer (some ⟨4, 156, none⟩)]).run Tryd.prog w = .ok (.int .u8 22) w := by kernel_rfl
theorem AsArea.kindW (w : World) : ((ReflectliteType.abiMethod fun t => (fun a : Nat => Value.int IntKind.u8 (a : Int)) <$> Rtype.kind t) #[.pointer (some ⟨4, 153, none⟩)]).run Tryd.prog w = .ok (.int .u8 25) w := by kernel_rfl
theorem AsArea.rlm (z : Sem Value) (f : TypeId → Addr → Nat → Nat → Sem Value) (v : Value) :
    ReflectliteValue.method z f #[v] = (do match ← ReflectliteValue.parts v with | none => z | some (t, a, fl) => f t a fl (fl % 32)) := rfl
theorem AsArea.partsT (a : Addr) (w : World) : (ReflectliteValue.parts (.agg #[.pointer (some ⟨4, 156, none⟩), .pointer (some a), .int .u64 150])).run Tryd.prog w = .ok (some (156, a, 150)) w := by kernel_rfl
theorem AsArea.isNilT (a p : Addr) (W : World) (ha : W.cell? a = some (.pointer (some p))) :
    (ReflectliteValue.method (ReflectliteValue.valueError "reflectlite.Value.IsNil" 0) ReflectliteValue.isNil #[.agg #[.pointer (some ⟨4, 156, none⟩), .pointer (some a), .int .u64 150]]).run Tryd.prog W = .ok (.bool false) W := by
  rw [AsArea.rlm]
  simp only [Sem.run_bind, AsArea.partsT, Result.andThen]
  simp [ReflectliteValue.isNil, loadVar, isAgg, underlying, Tryd.underlying156, ha, Result.andThen]
theorem AsArea.methodElem (h : Value) (w : World) : (Go.method 373 215 (.agg #[h]) "Elem").run Tryd.prog w = .ok (257, .agg #[h]) w := by kernel_rfl
theorem AsArea.methodImplements (h : Value) (w : World) : (Go.method 373 215 (.agg #[h]) "Implements").run Tryd.prog w = .ok (258, .agg #[h]) w := by kernel_rfl
theorem AsArea.methodAssignableTo (h : Value) (w : World) : (Go.method 373 215 (.agg #[h]) "AssignableTo").run Tryd.prog w = .ok (255, .agg #[h]) w := by kernel_rfl
theorem AsArea.elemT (w : World) : (ReflectliteType.method ReflectliteType.elem #[.agg #[.pointer (some ⟨4, 156, none⟩)]]).run Tryd.prog w = .ok (.iface 215 (.agg #[.pointer (some ⟨4, 153, none⟩)])) w := by kernel_rfl
theorem AsArea.implementsW (w : World) : (ReflectliteType.relation "Implements" ReflectliteType.implements_ #[.agg #[.pointer (some ⟨4, 153, none⟩)], .iface 215 (.agg #[.pointer (some ⟨4, 113, none⟩)])]).run Tryd.prog w = .ok (.bool true) w := by kernel_rfl
theorem AsArea.typeOfW (v : Value) (w : World) : (ReflectliteType.typeOf #[.iface 153 v]).run Tryd.prog w = .ok (.iface 215 (.agg #[.pointer (some ⟨4, 153, none⟩)])) w := by kernel_rfl
theorem AsArea.assignableW (w : World) : (ReflectliteType.relation "AssignableTo" ReflectliteType.assignableTo #[.agg #[.pointer (some ⟨4, 153, none⟩)], .iface 215 (.agg #[.pointer (some ⟨4, 153, none⟩)])]).run Tryd.prog w = .ok (.bool true) w := by kernel_rfl
theorem AsArea.valueOfW (c : Int) (w : World) : (ReflectliteValue.unpack (.iface 153 (.agg #[.int .i64 c]))).run Tryd.prog w
    = .ok (.agg #[.pointer (some ⟨4, 153, none⟩), .pointer (some ⟨w.heap.size, 0, none⟩), .int .u64 153]) (w.alloc (.cells #[.int .i64 c] 153)) := by kernel_rfl
theorem AsArea.elemOfT (w : World) : (Rtype.elem? 156).run Tryd.prog w = .ok (some 153) w := by kernel_rfl
theorem AsArea.mkW (p : Addr) (w : World) : (ReflectliteValue.mk 153 p ReflectliteValue.flagAddr).run Tryd.prog w = .ok (.agg #[.pointer (some ⟨4, 153, none⟩), .pointer (some p), .int .u64 409]) w := by kernel_rfl
theorem AsArea.elemVT (a p : Addr) (W : World) (ha : W.cell? a = some (.pointer (some p))) :
    (ReflectliteValue.method (ReflectliteValue.valueError "reflectlite.Value.Elem" 0) ReflectliteValue.elem #[.agg #[.pointer (some ⟨4, 156, none⟩), .pointer (some a), .int .u64 150]]).run Tryd.prog W
      = .ok (.agg #[.pointer (some ⟨4, 153, none⟩), .pointer (some p), .int .u64 409]) W := by
  rw [AsArea.rlm]
  simp only [Sem.run_bind, AsArea.partsT, Result.andThen]
  simp [ReflectliteValue.elem, loadVar, isAgg, underlying, Tryd.underlying156, ha, Result.andThen, AsArea.elemOfT, AsArea.mkW]
theorem AsArea.rls (v x : Value) : ReflectliteValue.set #[v, x] = (do
    let (some (dst, a, fl), some (src, b, _)) := (← ReflectliteValue.parts v, ← ReflectliteValue.parts x)
      | unsupported (.noEntry "extern/(internal/reflectlite.Value).Set.zeroValue")
    if fl / ReflectliteValue.flagAddr % 2 == 0 then unsupported (.noEntry "extern/(internal/reflectlite.Value).Set.unaddressable")
    let val ← loadVar src b
    if ← Rtype.directlyAssignable dst src then storeVar dst a val
    else if ← Rtype.implements dst src then
      if (← Rtype.kind src) == 20 then
        match val with
        | .nilIface => unsupported (.noEntry "extern/reflectlite: a nil value of one interface type handed on as a value of another")
        | _ => storeVar dst a val
      else storeVar dst a (.iface src val)
    else panicString ("reflectlite.Set: value of type " ++ (← Rtype.spelt src) ++ " is not assignable to type " ++ (← Rtype.spelt dst))
    pure (.tuple #[])) := rfl
theorem AsArea.partsWa (a : Addr) (w : World) : (ReflectliteValue.parts (.agg #[.pointer (some ⟨4, 153, none⟩), .pointer (some a), .int .u64 409])).run Tryd.prog w = .ok (some (153, a, 409)) w := by kernel_rfl
theorem AsArea.partsW (a : Addr) (w : World) : (ReflectliteValue.parts (.agg #[.pointer (some ⟨4, 153, none⟩), .pointer (some a), .int .u64 153])).run Tryd.prog w = .ok (some (153, a, 153)) w := by kernel_rfl
theorem AsArea.directW (w : World) : (Rtype.directlyAssignable 153 153).run Tryd.prog w = .ok true w := by kernel_rfl
theorem AsArea.sizeW (w : World) : (sizeOf 153).run Tryd.prog w = .ok 1 w := by kernel_rfl
theorem AsArea.aggW (w : World) : (isAgg 153).run Tryd.prog w = .ok true w := by kernel_rfl
theorem AsArea.loadW (b c : Nat) (n : Int) (W : World) (hb : W.cell? ⟨b, c, none⟩ = some (.int .i64 n)) : (loadVar 153 ⟨b, c, none⟩).run Tryd.prog W = .ok (.agg #[.int .i64 n]) W := by
  simp [loadVar, loadCells, loadCellsFrom, hb, Result.andThen, Addr.add]
theorem AsArea.setW (ta b : Addr) (n : Int) (old : Value) (W : World) (hb : (loadVar 153 b).run Tryd.prog W = .ok (.agg #[.int .i64 n]) W) (ht : W.cell? ta = some old) (hf : W.frozen? ta = false) :
    (ReflectliteValue.set #[.agg #[.pointer (some ⟨4, 153, none⟩), .pointer (some ta), .int .u64 409], .agg #[.pointer (some ⟨4, 153, none⟩), .pointer (some b), .int .u64 153]]).run Tryd.prog W
      = .ok (.tuple #[]) (W.setCell ta (.int .i64 n)) := by
  rw [AsArea.rls]
  simp only [Sem.run_bind, AsArea.partsWa, AsArea.partsW, Result.andThen]
  simp [ReflectliteValue.flagAddr, hb, Result.andThen, AsArea.directW, storeVar, Value.cells, storeCells, Addr.add]
  rw [run_store Tryd.prog W ta _ _ (by rfl)]
  simp [ht, hf]
end Go.Proofs.YtimmoclemcnhnaaDoor

/- errors.As of a wrongArea, at the target *wrongArea: it is true, and the target holds the code; of nothing but new memory and the target anything turns. And areaCode: the code of a wrongArea. -/
namespace Go.Proofs.YtimmoclemcnhnaaDoor
open Go.RowKit Go.Extern.Stop Go.Stop Go.Extern

set_option maxRecDepth 10000 in
set_option maxHeartbeats 4000000 in
theorem asArea_hit (c : Int) (t : Addr) (old : Value) (w : World) (hg : w.cell? ⟨0, 0, none⟩ = some (.iface 215 (.agg #[.pointer (some ⟨4, 113, none⟩)]))) (ht0 : w.cell? t = some old) (hf0 : w.frozen? t = false) :
    Calls Tryd.prog 142 #[.iface 153 (.agg #[.int .i64 c]), .iface 156 (.pointer (some t))] w fun ev w' => ev = .returned (.bool true) ∧ w' = ((((w.alloc (.cells #[.pointer (some t)] 156)).alloc (.cells #[.pointer (some ⟨4, 156, none⟩), .pointer (some ⟨w.heap.size, 0, none⟩), .int .u64 150] 188)).alloc (.cells #[.pointer (some ⟨4, 156, none⟩), .pointer (some ⟨w.heap.size, 0, none⟩), .int .u64 150] 188)).alloc (.cells #[.int .i64 c] 153)).setCell t (.int .i64 c) := by
  have h6 := @run_callFunc_extern Tryd.prog 184 _ (fun args => ReflectliteValue.unpack (args.getD 0 (.tuple #[]))) Tryd.func184 (by kernel_rfl) (by kernel_rfl) (by kernel_rfl) (by kernel_rfl)
  have h7 := @run_callFunc_extern Tryd.prog 185 _ (ReflectliteValue.methodAny (ReflectliteValue.valueError "reflectlite.Value.Type" 0) (fun t _ _ _ => ReflectliteType.toType t)) Tryd.func185 (by kernel_rfl) (by kernel_rfl) (by kernel_rfl) (by kernel_rfl)
  have h8 := @run_callFunc_extern Tryd.prog 186 _ (ReflectliteValue.method (ReflectliteValue.valueError "reflectlite.Value.IsNil" 0) ReflectliteValue.isNil) Tryd.func186 (by kernel_rfl) (by kernel_rfl) (by kernel_rfl) (by kernel_rfl)
  have h27 := @run_callFunc_extern Tryd.prog 245 _ (ReflectliteType.abiMethod fun t => do pure (.int .u8 (← Rtype.kind t))) Tryd.func245 (by kernel_rfl) (by kernel_rfl) (by kernel_rfl) (by kernel_rfl)
  have h37 := @run_callFunc_extern Tryd.prog 257 _ (ReflectliteType.method ReflectliteType.elem) Tryd.func257 (by kernel_rfl) (by kernel_rfl) (by kernel_rfl) (by kernel_rfl)
  have h38 := @run_callFunc_extern Tryd.prog 258 _ (ReflectliteType.relation "Implements" ReflectliteType.implements_) Tryd.func258 (by kernel_rfl) (by kernel_rfl) (by kernel_rfl) (by kernel_rfl)
  have h10 := @run_callFunc_extern Tryd.prog 209 _ ReflectliteType.typeOf Tryd.func209 (by kernel_rfl) (by kernel_rfl) (by kernel_rfl) (by kernel_rfl)
  have h35 := @run_callFunc_extern Tryd.prog 255 _ (ReflectliteType.relation "AssignableTo" ReflectliteType.assignableTo) Tryd.func255 (by kernel_rfl) (by kernel_rfl) (by kernel_rfl) (by kernel_rfl)
  have h11 := @run_callFunc_extern Tryd.prog 210 _ (ReflectliteValue.method (ReflectliteValue.valueError "reflectlite.Value.Elem" 0) ReflectliteValue.elem) Tryd.func210 (by kernel_rfl) (by kernel_rfl) (by kernel_rfl) (by kernel_rfl)
  have h12 := @run_callFunc_extern Tryd.prog 211 _ ReflectliteValue.set Tryd.func211 (by kernel_rfl) (by kernel_rfl) (by kernel_rfl) (by kernel_rfl)
  have tO := AsArea.typeOfW
  have mA := AsArea.methodAssignableTo
  have aW := AsArea.assignableW
  have vW := AsArea.valueOfW
  have f6 := AsArea.valueOfT
  have f7 := AsArea.typeT
  have mK := AsArea.methodKind
  have mE := AsArea.methodElem
  have mI := AsArea.methodImplements
  have kT := AsArea.kindT
  have kW := AsArea.kindW
  have eT := AsArea.elemT
  have iW := AsArea.implementsW
  have n8 := AsArea.isNilT ⟨w.heap.size, 0, none⟩ t ((w.alloc (.cells #[.pointer (some t)] 156)).alloc (.cells #[.pointer (some ⟨4, 156, none⟩), .pointer (some ⟨w.heap.size, 0, none⟩), .int .u64 150] 188)) (by simp)
  have hlt : 0 < w.heap.size := World.block_lt_of_cell? w _ hg
  have hg2 : ((w.alloc (.cells #[.pointer (some t)] 156)).alloc (.cells #[.pointer (some ⟨4, 156, none⟩), .pointer (some ⟨w.heap.size, 0, none⟩), .int .u64 150] 188)).cell? ⟨0, 0, none⟩ = some (.iface 215 (.agg #[.pointer (some ⟨4, 113, none⟩)])) := by
    rw [World.cell?_alloc_lt _ _ ⟨0, 0, none⟩ (by first | (simp; done) | (simp; omega)), World.cell?_alloc_lt _ _ ⟨0, 0, none⟩ hlt]; exact hg
  have htl : t.block < w.heap.size := by
    rcases Nat.lt_or_ge t.block w.heap.size with h | h
    · exact h
    · simp [World.cell?, Array.getElem?_eq_none h] at ht0
  have el := AsArea.elemVT ⟨w.heap.size, 0, none⟩ t (((w.alloc (.cells #[.pointer (some t)] 156)).alloc (.cells #[.pointer (some ⟨4, 156, none⟩), .pointer (some ⟨w.heap.size, 0, none⟩), .int .u64 150] 188)).alloc (.cells #[.pointer (some ⟨4, 156, none⟩), .pointer (some ⟨w.heap.size, 0, none⟩), .int .u64 150] 188)) (by rw [World.cell?_alloc_lt _ _ ⟨w.heap.size, 0, none⟩ (by simp; omega)]; simp)
  have st := AsArea.setW t ⟨w.heap.size + 1 + 1 + 1, 0, none⟩ c old ((((w.alloc (.cells #[.pointer (some t)] 156)).alloc (.cells #[.pointer (some ⟨4, 156, none⟩), .pointer (some ⟨w.heap.size, 0, none⟩), .int .u64 150] 188)).alloc (.cells #[.pointer (some ⟨4, 156, none⟩), .pointer (some ⟨w.heap.size, 0, none⟩), .int .u64 150] 188)).alloc (.cells #[.int .i64 c] 153))
    (AsArea.loadW _ _ _ _ (by rw [World.cell?_alloc_at _ _ _ _ (by simp)]; rfl))
    (by rw [World.cell?_alloc_lt _ _ t (by simp; omega), World.cell?_alloc_lt _ _ t (by simp; omega), World.cell?_alloc_lt _ _ t (by simp; omega), World.cell?_alloc_lt _ _ t htl]; exact ht0)
    (by rw [World.frozen?_alloc_old _ _ t (by simp; omega), World.frozen?_alloc_old _ _ t (by simp; omega), World.frozen?_alloc_old _ _ t (by simp; omega), World.frozen?_alloc_old _ _ t (Nat.ne_of_lt htl)]; exact hf0)
  go_enter Tryd.func142, Tryd.ntmps142
  go_wp2
  refine wp_loop_rounds 1 ?_
  rw [rounds_succ]
  go_wp2
  go_ret
  exact ⟨rfl, rfl⟩
end Go.Proofs.YtimmoclemcnhnaaDoor

/- areaCode of a wrongArea is its code; nothing but new memory turns. -/
namespace Go.Proofs.YtimmoclemcnhnaaDoor
open Go.RowKit

set_option maxRecDepth 10000 in
set_option maxHeartbeats 1000000 in
theorem areaCode_any (c : Int) (w : World) (hg : w.cell? ⟨0, 0, none⟩ = some (.iface 215 (.agg #[.pointer (some ⟨4, 113, none⟩)]))) :
    Calls Tryd.prog 93 #[.iface 153 (.agg #[.int .i64 c])] w fun e w' => e = .returned (.int .i64 c) ∧ Below w.heap.size w w' := by
  have hlt : 0 < w.heap.size := World.block_lt_of_cell? w _ hg
  have hgA : (w.alloc (.cells #[.int .i64 0] 153)).cell? ⟨0, 0, none⟩ = some (.iface 215 (.agg #[.pointer (some ⟨4, 113, none⟩)])) := by
    rw [World.cell?_alloc_lt _ _ ⟨0, 0, none⟩ hlt]; exact hg
  have htA : (w.alloc (.cells #[.int .i64 0] 153)).cell? ⟨w.heap.size, 0, none⟩ = some (.int .i64 0) := by simp
  have hfA : (w.alloc (.cells #[.int .i64 0] 153)).frozen? ⟨w.heap.size, 0, none⟩ = false := by simp
  go_enter Tryd.func93, Tryd.ntmps93
  go_wp2_with fail
  refine (asArea_hit c ⟨w.heap.size, 0, none⟩ _ _ hgA htA hfA).mono ?_
  rintro e w1 ⟨rfl, rfl⟩
  go_wp2
  go_ret
  refine ⟨rfl, ?_⟩
  have hb : Below w.heap.size w (w.alloc (.cells #[.int .i64 c] 153)) := (Below.refl _ _).alloc (Nat.le_refl _) _
  exact (((hb.alloc (by simp) _).alloc (by simp; omega) _).alloc (by simp; omega) _).alloc (by simp; omega) _
end Go.Proofs.YtimmoclemcnhnaaDoor

/- The walk of the program's AreaDrop. -/
namespace Go.Proofs.YtimmoclemcnhnaaDoor
open Go.RowKit Go.Maps

set_option maxRecDepth 10000 in
set_option maxHeartbeats 8000000 in
theorem areaDrop_any (v : Value) (L : List En) (key name : ByteArray) (B : Nat) (w : World) (hE : ErrTy w) (hs : SliceE w B v L) (hn : L.length ≤ 1048576) (hz : ∀ i, i < L.length → (atE L i).na.size ≤ 1048576 ∧ (atE L i).va.size ≤ 1048576) (hk : key.size ≤ 1048576) (hna : name.size ≤ 1048576) :
    Calls Tryd.prog 46 #[v, .string key, .string name] w fun e w' => ∃ v', e = .returned v' ∧ AnsE w' w.heap.size v' (dropO L key name) ∧ Below w.heap.size w w' := by
  have KP : Hid (∀ W, Below w.heap.size w W → Calls Tryd.prog 92 #[v, .string key, .string name, .string ⟨#[]⟩] W fun e w' => ((beginI L key name emptyT = 0 ∧ ∃ bm, e = .returned (.tuple #[.map (some bm), .nilIface]) ∧ W.heap.size ≤ bm ∧ BookL w' bm 16 L) ∨ (beginI L key name emptyT ≠ 0 ∧ e = .returned (.tuple #[.map none, .iface 153 (.agg #[.int .i64 (beginI L key name emptyT)])]))) ∧ Below W.heap.size W w') := fun W hb => placeBook_any v L key name emptyT B W (hs.below hb) hn hz hk hna (by decide)
  have KC : Hid (∀ (c : Int) (W : World), Below w.heap.size w W → Calls Tryd.prog 93 #[.iface 153 (.agg #[.int .i64 c])] W fun e w' => e = .returned (.int .i64 c) ∧ Below W.heap.size W w') := fun c W hb => areaCode_any c W (hE.on hb)
  have HP : Hid (beginI L key name emptyT = 0 → RiseE L ∧ L.length ≤ 16 ∧ key.size ≤ 200 ∧ name.size ≤ 200) := fun h => by
    obtain ⟨h1, h2, h3, -⟩ := beginI_ok h
    have := keyB_size h2
    have := nameB_size h3
    exact ⟨area_rise h1, (areaB_parts h1).1, by omega, by omega⟩
  have HNo : Hid (beginI L key name emptyT ≠ 0 → dropO L key name = illO (beginI L key name emptyT)) := fun h => by unfold dropO; rw [if_neg h]
  have HN : Hid (beginI L key name emptyT = 0 → seekE L key name = none → dropO L key name = illO 6) := fun h h2 => by unfold dropO; rw [if_pos h, h2]
  have HS : Hid (beginI L key name emptyT = 0 → ∀ c, seekE L key name = some c → dropO L key name = ⟨withoutE L key name, emptyT, 0⟩) := fun h c h2 => by unfold dropO; rw [if_pos h, h2]
  have X0 : Hid (BoxAt (w.alloc (.cells #[.slice none 0 0, .string ⟨#[]⟩, .int .i64 0] 56)) w.heap.size) := box_made w _
  have B0 : Hid (Below w.heap.size w (w.alloc (.cells #[.slice none 0 0, .string ⟨#[]⟩, .int .i64 0] 56))) := (Below.refl _ _).alloc (Nat.le_refl _) _
  clear hE hs hz
  generalize beginI L key name emptyT = bi at *
  generalize dropO L key name = Z at *
  go_enter Tryd.func46, Tryd.ntmps46
  go_wp2_with fail
  refine (KP.out _ B0.out).mono ?_
  rintro e w1 ⟨⟨rfl, bm, rfl, hbm, hm⟩ | ⟨hbi, rfl⟩, hb1⟩
  · obtain ⟨hrise, h16, hk2, hn2⟩ := HP.out rfl
    have HN1 : Hid (seekE L key name = none → Z = illO 6) := HN.out rfl
    have HS1 : Hid (∀ c, seekE L key name = some c → Z = ⟨withoutE L key name, emptyT, 0⟩) := HS.out rfl
    have hsm := hm.small
    have hw1 : w.heap.size < w1.heap.size := Nat.lt_of_lt_of_le X0.out.lt hb1.size
    have hbw : w.heap.size < bm := by have := X0.out.lt; omega
    have KG : Hid (∀ W, Below w1.heap.size w1 W → Calls Tryd.prog 99 #[.map (some bm), .string key, .string name] W fun e w' => ((∃ c, seekE L key name = some c ∧ e = .returned (.tuple #[enV c, .nilIface])) ∨ (seekE L key name = none ∧ e = .returned (.tuple #[.agg #[.string ⟨#[]⟩, .string ⟨#[]⟩, .string ⟨#[]⟩], .iface 153 (.agg #[.int .i64 6])]))) ∧ Below W.heap.size W w') := fun W hb => get_any bm 16 L key name W (hm.below hb) hk2 hn2
    have KD : Hid (∀ c, seekE L key name = some c → ∀ W, BookL W bm 16 L → Calls Tryd.prog 100 #[.map (some bm), enV c] W fun e w' => e = .returned (.tuple #[]) ∧ BookL w' bm 16 (withoutE L key name) ∧ W.grownBy w' (some bm)) := fun c hc W hW => (drop_any bm 16 L c W hW (hsm c (seekE_mem hc).1)).mono (fun e w' ⟨h1, h2, h3⟩ => ⟨h1, h2 _ (withoutE_mem hk2 hn2 hsm hc), h3⟩)
    have KL : Hid (∀ W, BookL W bm 16 (withoutE L key name) → Calls Tryd.prog 95 #[.map (some bm)] W fun e w' => ∃ v, e = .returned v ∧ SliceE w' W.heap.size v (withoutE L key name) ∧ Below W.heap.size W w') := fun W h => list_any bm 16 _ (withoutE L key name) W (by omega) h (rise_filter hrise _) (fun _ => Iff.rfl)
    have M1 : Hid (BookL w1 bm 16 L) := hm
    have X1 : Hid (BoxAt w1 w.heap.size) := X0.out.below hb1
    have B1 : Hid (Below w.heap.size w w1) := B0.out.trans (hb1.mono B0.out.size)
    clear hb1 hm hsm HNo HN HS KP X0 B0 HP hrise h16
    generalize withoutE L key name = Y at *
    generalize seekE L key name = sk at *
    go_wp2_with fail
    refine (KG.out _ (Below.refl _ _)).mono ?_
    rintro e w2 ⟨⟨c, rfl, rfl⟩ | ⟨rfl, rfl⟩, hb2⟩
    · have HZ : Hid (Z = ⟨Y, emptyT, 0⟩) := HS1.out c rfl
      have KD1 : Hid (∀ W, BookL W bm 16 L → Calls Tryd.prog 100 #[.map (some bm), enV c] W fun e w' => e = .returned (.tuple #[]) ∧ BookL w' bm 16 Y ∧ W.grownBy w' (some bm)) := KD.out c rfl
      have M2 : Hid (BookL w2 bm 16 L) := M1.out.below hb2
      have X2 : Hid (BoxAt w2 w.heap.size) := X1.out.below hb2
      have B2 : Hid (Below w.heap.size w w2) := B1.out.trans (hb2.mono B1.out.size)
      clear hb2 KG KD HN1 HS1 M1 X1 B1 KC
      obtain ⟨ke, na, va⟩ := c
      unfold enV at *
      dsimp only at *
      have HA : Hid (∀ o, BookL (w2.alloc o) bm 16 L ∧ BoxAt (w2.alloc o) w.heap.size ∧ Below w.heap.size w (w2.alloc o)) := fun o => ⟨M2.out.below ((Below.refl _ _).alloc (Nat.le_refl _) _), X2.out.below ((Below.refl _ _).alloc (Nat.le_refl _) _), B2.out.alloc B2.out.size _⟩
      go_wp2_with fail
      refine (KD1.out _ (HA.out _).1).mono ?_
      rintro e w3 ⟨rfl, hm3, hg3⟩
      have M3 : Hid (BookL w3 bm 16 Y) := hm3
      have X3 : Hid (BoxAt w3 w.heap.size) := (HA.out _).2.1.grown hg3 (by omega)
      have B3 : Hid (Below w.heap.size w w3) := (HA.out _).2.2.grown hg3 (HA.out _).2.2.size (fun j hj => by have := Option.some.inj hj; omega)
      clear hm3 hg3 KD1 M2 X2 B2 HA
      go_wp2_with fail
      refine (KL.out _ M3.out).mono ?_
      rintro e w4 ⟨v4, rfl, hs4, hb4⟩
      have S4 : Hid (SliceE w4 w3.heap.size v4 Y) := hs4
      have B4 : Hid (Below w.heap.size w w4) := B3.out.trans (hb4.mono B3.out.size)
      have z3 := X3.out.lt
      obtain ⟨x0, x1, x2, f0, f1, f2, hlt⟩ := X3.out.below hb4
      obtain ⟨p, cap, hv4⟩ : ∃ p cap, v4 = .slice p Y.length cap := by obtain ⟨⟨p, cap, e, -⟩, -⟩ := hs4; exact ⟨p, cap, e⟩
      clear hs4 hb4 KL X3 B3 M3
      subst hv4
      go_wp2
      refine bodyPost_ret (v := .agg #[.slice p Y.length cap, .string ⟨#[]⟩, .int .i64 0]) (by simp [results, Tryd.results46, go_sem, x0, x1, x2]) rfl ⟨_, rfl, ⟨_, by rw [HZ.out]; rfl, by rw [HZ.out]; exact (S4.out.store3 z3).mono (Nat.le_of_lt z3)⟩, store3_below B4.out⟩
    · have HZ : Hid (Z = illO 6) := HN1.out rfl
      have X2 : Hid (BoxAt w2 w.heap.size) := X1.out.below hb2
      have B2 : Hid (Below w.heap.size w w2) := B1.out.trans (hb2.mono B1.out.size)
      have HA : Hid (∀ o, BoxAt (w2.alloc o) w.heap.size ∧ Below w.heap.size w (w2.alloc o)) := fun o => ⟨X2.out.below ((Below.refl _ _).alloc (Nat.le_refl _) _), B2.out.alloc B2.out.size _⟩
      clear hb2 KG KD KL HN1 HS1 M1 X1 B1 X2 B2
      go_wp2_with fail
      refine (KC.out _ _ (HA.out _).2).mono ?_
      rintro e w3 ⟨rfl, hb3⟩
      have B3 : Hid (Below w.heap.size w w3) := (HA.out _).2.trans (hb3.mono (HA.out _).2.size)
      obtain ⟨x0, x1, x2, f0, f1, f2, hlt⟩ := (HA.out _).1.below hb3
      clear hb3 KC HA
      go_wp2
      refine bodyPost_ret (v := .agg #[.slice none 0 0, .string ⟨#[]⟩, .int .i64 6]) (by simp [results, Tryd.results46, go_sem, x0, x1, x2]) rfl ⟨_, rfl, ⟨_, by rw [HZ.out]; rfl, by rw [HZ.out]; exact sliceE_none _ _⟩, store3_below B3.out⟩
  · have HZ : Hid (Z = illO bi) := HNo.out hbi
    have X1 : Hid (BoxAt w1 w.heap.size) := X0.out.below hb1
    have B1 : Hid (Below w.heap.size w w1) := B0.out.trans (hb1.mono B0.out.size)
    clear hb1 HNo HN HS KP X0 B0 HP
    go_wp2_with fail
    refine (KC.out _ _ B1.out).mono ?_
    rintro e w2 ⟨rfl, hb2⟩
    have B2 : Hid (Below w.heap.size w w2) := B1.out.trans (hb2.mono B1.out.size)
    obtain ⟨x0, x1, x2, f0, f1, f2, hlt⟩ := X1.out.below hb2
    clear hb2 KC B1 X1
    go_wp2
    refine bodyPost_ret (v := .agg #[.slice none 0 0, .string ⟨#[]⟩, .int .i64 bi]) (by simp [results, Tryd.results46, go_sem, x0, x1, x2]) rfl ⟨_, rfl, ⟨_, by rw [HZ.out]; rfl, by rw [HZ.out]; exact sliceE_none _ _⟩, store3_below B2.out⟩
end Go.Proofs.YtimmoclemcnhnaaDoor

/- The walk of the program's AreaPut. -/
namespace Go.Proofs.YtimmoclemcnhnaaDoor
open Go.RowKit Go.Maps

set_option maxRecDepth 10000 in
set_option maxHeartbeats 8000000 in
theorem areaPut_any (v : Value) (L : List En) (key name value : ByteArray) (B : Nat) (w : World) (hE : ErrTy w) (hs : SliceE w B v L) (hn : L.length ≤ 1048576) (hz : ∀ i, i < L.length → (atE L i).na.size ≤ 1048576 ∧ (atE L i).va.size ≤ 1048576) (hk : key.size ≤ 1048576) (hna : name.size ≤ 1048576) (hva : value.size ≤ 1048576) :
    Calls Tryd.prog 37 #[v, .string key, .string name, .string value] w fun e w' => ∃ v', e = .returned v' ∧ AnsE w' w.heap.size v' (putO L key name value) ∧ Below w.heap.size w w' := by
  have KP : Hid (∀ W, Below w.heap.size w W → Calls Tryd.prog 92 #[v, .string key, .string name, .string value] W fun e w' => ((beginI L key name value = 0 ∧ ∃ bm, e = .returned (.tuple #[.map (some bm), .nilIface]) ∧ W.heap.size ≤ bm ∧ BookL w' bm 16 L) ∨ (beginI L key name value ≠ 0 ∧ e = .returned (.tuple #[.map none, .iface 153 (.agg #[.int .i64 (beginI L key name value)])]))) ∧ Below W.heap.size W w') := fun W hb => placeBook_any v L key name value B W (hs.below hb) hn hz hk hna hva
  have KC : Hid (∀ (c : Int) (W : World), Below w.heap.size w W → Calls Tryd.prog 93 #[.iface 153 (.agg #[.int .i64 c])] W fun e w' => e = .returned (.int .i64 c) ∧ Below W.heap.size W w') := fun c W hb => areaCode_any c W (hE.on hb)
  have HP : Hid (beginI L key name value = 0 → RiseE L ∧ L.length ≤ 16 ∧ smallE ⟨key, name, value⟩) := fun h => by
    obtain ⟨h1, h2, h3, h4⟩ := beginI_ok h
    have := keyB_size h2
    have := nameB_size h3
    have := valB_size h4
    exact ⟨area_rise h1, (areaB_parts h1).1, by show key.size ≤ 200; omega, by show name.size ≤ 200; omega, by show value.size ≤ 200; omega⟩
  have HNo : Hid (beginI L key name value ≠ 0 → putO L key name value = illO (beginI L key name value)) := fun h => by unfold putO; rw [if_neg h]
  have HN : Hid (beginI L key name value = 0 → areaB (putE L ⟨key, name, value⟩) = false → putO L key name value = illO 9) := fun h h2 => by unfold putO; rw [if_pos h, h2]; rfl
  have HS : Hid (beginI L key name value = 0 → areaB (putE L ⟨key, name, value⟩) = true → putO L key name value = ⟨putE L ⟨key, name, value⟩, value, 0⟩) := fun h h2 => by unfold putO; rw [if_pos h, if_pos h2]
  have X0 : Hid (BoxAt (w.alloc (.cells #[.slice none 0 0, .string ⟨#[]⟩, .int .i64 0] 56)) w.heap.size) := box_made w _
  have B0 : Hid (Below w.heap.size w (w.alloc (.cells #[.slice none 0 0, .string ⟨#[]⟩, .int .i64 0] 56))) := (Below.refl _ _).alloc (Nat.le_refl _) _
  clear hE hs hz
  generalize beginI L key name value = bi at *
  generalize putO L key name value = Z at *
  go_enter Tryd.func37, Tryd.ntmps37
  go_wp2_with fail
  refine (KP.out _ B0.out).mono ?_
  rintro e w1 ⟨⟨rfl, bm, rfl, hbm, hm⟩ | ⟨hbi, rfl⟩, hb1⟩
  · obtain ⟨hrise, h16, hsx⟩ := HP.out rfl
    have HN1 : Hid (areaB (putE L ⟨key, name, value⟩) = false → Z = illO 9) := HN.out rfl
    have HS1 : Hid (areaB (putE L ⟨key, name, value⟩) = true → Z = ⟨putE L ⟨key, name, value⟩, value, 0⟩) := HS.out rfl
    have hw1 : w.heap.size < w1.heap.size := Nat.lt_of_lt_of_le X0.out.lt hb1.size
    have hbw : w.heap.size < bm := by have := X0.out.lt; omega
    have KU : Hid (∀ W, Below w1.heap.size w1 W → Calls Tryd.prog 94 #[.map (some bm), .agg #[.string key, .string name, .string value]] W fun e w' => ((areaB (putE L ⟨key, name, value⟩) = true ∧ e = .returned .nilIface) ∨ (areaB (putE L ⟨key, name, value⟩) = false ∧ e = .returned (.iface 153 (.agg #[.int .i64 9])))) ∧ BookL w' bm 17 (putE L ⟨key, name, value⟩) ∧ W.grownBy w' (some bm)) := fun W hb => put_any bm 16 L ⟨key, name, value⟩ W (hm.below hb) (by omega) hrise (by omega) hsx
    have KL : Hid (∀ W, BookL W bm 17 (putE L ⟨key, name, value⟩) → Calls Tryd.prog 95 #[.map (some bm)] W fun e w' => ∃ v, e = .returned v ∧ SliceE w' W.heap.size v (putE L ⟨key, name, value⟩) ∧ Below W.heap.size W w') := fun W h => list_any bm 17 _ _ W (by omega) h (putE_rise hrise _) (fun _ => Iff.rfl)
    have KT : Hid (∀ W, Calls Tryd.prog 58 #[.string value, .string ⟨#[]⟩] W fun e w' => e = .returned (.string value) ∧ Below W.heap.size W w') := fun W => together_empty value W (by have := hsx.2.2; have h2 : value.size ≤ 200 := this; omega)
    have X1 : Hid (BoxAt w1 w.heap.size) := X0.out.below hb1
    have B1 : Hid (Below w.heap.size w w1) := B0.out.trans (hb1.mono B0.out.size)
    clear hb1 hm HNo HN HS KP X0 B0 HP hrise h16 hsx
    generalize putE L ⟨key, name, value⟩ = Y at *
    generalize areaB Y = ok at *
    go_wp2_with fail
    refine (KU.out _ (Below.refl _ _)).mono ?_
    rintro e w2 ⟨⟨rfl, rfl⟩ | ⟨rfl, rfl⟩, hm2, hg2⟩
    · have HZ : Hid (Z = ⟨Y, value, 0⟩) := HS1.out rfl
      have M2 : Hid (BookL w2 bm 17 Y) := hm2
      have X2 : Hid (BoxAt w2 w.heap.size) := X1.out.grown hg2 (by omega)
      have B2 : Hid (Below w.heap.size w w2) := B1.out.grown hg2 B1.out.size (fun j hj => by have := Option.some.inj hj; omega)
      clear hm2 hg2 KU HN1 HS1 X1 B1 KC
      go_wp2_with fail
      refine (KL.out _ M2.out).mono ?_
      rintro e w4 ⟨v4, rfl, hs4, hb4⟩
      have S4 : Hid (SliceE w4 w2.heap.size v4 Y) := hs4
      have B4 : Hid (Below w.heap.size w w4) := B2.out.trans (hb4.mono B2.out.size)
      have z3 := X2.out.lt
      have X4 : Hid (BoxAt w4 w.heap.size) := X2.out.below hb4
      obtain ⟨p, cap, hv4⟩ : ∃ p cap, v4 = .slice p Y.length cap := by obtain ⟨⟨p, cap, e, -⟩, -⟩ := hs4; exact ⟨p, cap, e⟩
      clear hs4 hb4 KL X2 B2 M2
      subst hv4
      go_wp2_with fail
      refine (KT.out _).mono ?_
      rintro e w5 ⟨rfl, hb5⟩
      have S5 : Hid (SliceE w5 w2.heap.size (.slice p Y.length cap) Y) := S4.out.below hb5
      have B5 : Hid (Below w.heap.size w w5) := B4.out.trans (hb5.mono B4.out.size)
      obtain ⟨x0, x1, x2, f0, f1, f2, hlt⟩ := X4.out.below hb5
      clear hb5 KT X4 B4 S4
      go_wp2
      refine bodyPost_ret (v := .agg #[.slice p Y.length cap, .string value, .int .i64 0]) (by simp [results, Tryd.results37, go_sem, x0, x1, x2]) rfl ⟨_, rfl, ⟨_, by rw [HZ.out], by rw [HZ.out]; exact (S5.out.store3 z3).mono (Nat.le_of_lt z3)⟩, store3_below B5.out⟩
    · have HZ : Hid (Z = illO 9) := HN1.out rfl
      have X2 : Hid (BoxAt w2 w.heap.size) := X1.out.grown hg2 (by omega)
      have B2 : Hid (Below w.heap.size w w2) := B1.out.grown hg2 B1.out.size (fun j hj => by have := Option.some.inj hj; omega)
      clear hm2 hg2 KU KT KL HN1 HS1 X1 B1
      go_wp2_with fail
      refine (KC.out _ _ B2.out).mono ?_
      rintro e w3 ⟨rfl, hb3⟩
      have B3 : Hid (Below w.heap.size w w3) := B2.out.trans (hb3.mono B2.out.size)
      obtain ⟨x0, x1, x2, f0, f1, f2, hlt⟩ := X2.out.below hb3
      clear hb3 KC X2 B2
      go_wp2
      refine bodyPost_ret (v := .agg #[.slice none 0 0, .string ⟨#[]⟩, .int .i64 9]) (by simp [results, Tryd.results37, go_sem, x0, x1, x2]) rfl ⟨_, rfl, ⟨_, by rw [HZ.out]; rfl, by rw [HZ.out]; exact sliceE_none _ _⟩, store3_below B3.out⟩
  · have HZ : Hid (Z = illO bi) := HNo.out hbi
    have X1 : Hid (BoxAt w1 w.heap.size) := X0.out.below hb1
    have B1 : Hid (Below w.heap.size w w1) := B0.out.trans (hb1.mono B0.out.size)
    clear hb1 HNo HN HS KP X0 B0 HP
    go_wp2_with fail
    refine (KC.out _ _ B1.out).mono ?_
    rintro e w2 ⟨rfl, hb2⟩
    have B2 : Hid (Below w.heap.size w w2) := B1.out.trans (hb2.mono B1.out.size)
    obtain ⟨x0, x1, x2, f0, f1, f2, hlt⟩ := X1.out.below hb2
    clear hb2 KC B1 X1
    go_wp2
    refine bodyPost_ret (v := .agg #[.slice none 0 0, .string ⟨#[]⟩, .int .i64 bi]) (by simp [results, Tryd.results37, go_sem, x0, x1, x2]) rfl ⟨_, rfl, ⟨_, by rw [HZ.out]; rfl, by rw [HZ.out]; exact sliceE_none _ _⟩, store3_below B2.out⟩
end Go.Proofs.YtimmoclemcnhnaaDoor

/- The laws' markEntryS and heldEntryS over slices of entrys. Written by rowsmark.py. -/
namespace Go.Proofs.YtimmoclemcnhnaaDoor
open Go.RowKit

/-- the mark of a cell, of one whose first number is z -/
def markEnZ (z o : Nat) : Value := if o = 0 then .string (markT (z + 0)) else if o = 1 then .string (markT (z + 1)) else .string (markT (z + 2))
def markEnC (q j o : Nat) : Value := markEnZ (q + j * 3) o
def markedE (f : Nat → Nat → Value) (q k j o : Nat) : Value := if j < k then markEnC q j o else f j o
theorem SliceR.atEn {w : World} {B n m g cap : Nat} {f : Nat → Nat → Value} (hs : SliceR w B 3 (.slice (some ⟨g, 0, none⟩) m cap) n f) (k : Nat) (hk : k < n) : ∀ o, o < 3 → w.cell? ⟨g, k * 3 + o, none⟩ = some (f k o) ∧ w.frozen? ⟨g, k * 3 + o, none⟩ = false := by
  obtain ⟨p', cap', e, hh⟩ := hs
  injection e with e1
  obtain ⟨g', e2, -, -, hc⟩ := hh (by omega)
  rw [e2] at e1
  injection e1 with e1
  injection e1 with e1
  subst e1
  exact hc k hk
set_option maxRecDepth 10000 in
set_option maxHeartbeats 8000000 in
theorem markEntryS_any (a : Value) (n B q : Nat) (f : Nat → Nat → Value) (w : World) (ha : SliceR w B 3 a n f) (hn : n ≤ 1048576) (hq : 0 < q) (hq2 : q ≤ 20971520) :
    Calls Tryd.prog 40 #[a, .int .i64 (q : Int)] w fun e w' => e = .returned (.int .i64 ((q + n * 3 : Nat) : Int)) ∧ SliceR w' B 3 a n (markEnC q) ∧ (∀ G, (0 < n → a.ownBlock = some G) → w.grownBy w' (some G)) := by
  have HA : Hid (SliceR w B 3 a n f) := ha
  obtain ⟨p, cap, rfl, h1⟩ := ha
  have HG : Hid (0 < n → ∃ g, p = some ⟨g, 0, none⟩ ∧ B ≤ g ∧ g < w.heap.size) := fun h => by
    obtain ⟨g, e, h2, h3, -⟩ := h1 h
    exact ⟨g, e, h2, h3⟩
  clear h1
  have HM : Hid (∀ (m : Nat) (W : World), 0 < m → m ≤ 9223372036854775807 → Calls Tryd.prog 86 #[.int .i64 (m : Int)] W fun e w' => e = .returned (.string (markT m)) ∧ Below W.heap.size W w') := fun m W h1 h2 => markText_any m W h1 h2
  go_enter Tryd.func40, Tryd.ntmps40
  go_wp2
  go_loopw [1, 5] (fun kk i wr => ∃ k : Nat, k ≤ n ∧ i = .int .i64 k ∧ kk = .int .i64 ((q + k * 3 : Nat) : Int) ∧ Hid (SliceR wr B 3 (.slice p n cap) n (markedE f q k)) ∧ Hid (∀ G, (0 < n → (Value.slice p n cap).ownBlock = some G) → w.grownBy wr (some G))) (fun _ i _ => n - (intOf i).toNat)
  case atStart => exact ⟨0, by omega, rfl, by go_num, HA, fun _ _ => ⟨rfl, rfl, rfl, Nat.le_refl _, fun _ _ _ => rfl⟩⟩
  case round =>
    obtain ⟨k, hk, rfl, rfl, HR, HB⟩ := hrel
    by_cases hlt : k < n
    · obtain ⟨g, rfl, hBg, hgw⟩ := HG.out (by omega)
      have k0 : (0 : Int) ≤ k := by omega
      have k1 : (k : Int) < n := by omega
      have B0 : Hid (w.grownBy wr (some g)) := HB.out g (fun _ => rfl)
      have hzb : q + k * 3 ≤ 50000000 := by omega
      have hz0 : 0 < q + k * 3 := by omega
      have HEnd : Hid (∀ w', SliceR w' B 3 (.slice (some ⟨g, 0, none⟩) n cap) n (fun j o => if j = k then markEnZ (q + k * 3) o else markedE f q k j o) → SliceR w' B 3 (.slice (some ⟨g, 0, none⟩) n cap) n (markedE f q (k + 1))) := fun w' h => SliceR.congr h (fun j hj o ho => by
        unfold markedE markEnC
        by_cases e : j = k
        · subst e; rw [if_pos rfl, if_pos (by omega)]
        · rw [if_neg e]
          by_cases h : j < k
          · rw [if_pos h, if_pos (by omega)]
          · rw [if_neg h, if_neg (by omega)])
      have hnx : ((q + k * 3 : Nat) : Int) + 3 = ((q + (k + 1) * 3 : Nat) : Int) := by omega
      have HNX : Hid (((q + k * 3 : Nat) : Int) + 3 = ((q + (k + 1) * 3 : Nat) : Int)) := hnx
      clear hnx
      generalize markedE f q k = fm at *
      generalize q + k * 3 = zn at *
      have HN0 : Hid (∀ W, Calls Tryd.prog 86 #[.int .i64 ((zn : Int))] W fun e w' => e = .returned (.string (markT (zn + 0))) ∧ Below W.heap.size W w') := fun W => by
        have h := HM.out (zn + 0) W (by omega) (by omega)
        have e : ((zn + 0 : Nat) : Int) = (zn : Int) := by omega
        rw [e] at h; exact h
      have HN1 : Hid (∀ W, Calls Tryd.prog 86 #[.int .i64 ((zn : Int) + 1)] W fun e w' => e = .returned (.string (markT (zn + 1))) ∧ Below W.heap.size W w') := fun W => by
        have h := HM.out (zn + 1) W (by omega) (by omega)
        have e : ((zn + 1 : Nat) : Int) = (zn : Int) + 1 := by omega
        rw [e] at h; exact h
      have HN2 : Hid (∀ W, Calls Tryd.prog 86 #[.int .i64 ((zn : Int) + 1 + 1)] W fun e w' => e = .returned (.string (markT (zn + 2))) ∧ Below W.heap.size W w') := fun W => by
        have h := HM.out (zn + 2) W (by omega) (by omega)
        have e : ((zn + 2 : Nat) : Int) = (zn : Int) + 1 + 1 := by omega
        rw [e] at h; exact h
      have X0 : Hid (SliceR wr B 3 (.slice (some ⟨g, 0, none⟩) n cap) n fm) := HR
      clear HM HR HB
      go_wp2_with fail
      refine (HN0.out _).mono ?_
      rintro e u1 ⟨rfl, hb1⟩
      have S1 : Hid (SliceR u1 B 3 (.slice (some ⟨g, 0, none⟩) n cap) n fm) := SliceR.below (X0.out) hb1
      have G1 : Hid (w.grownBy u1 (some g)) := grownG_below (B0.out) hb1
      clear hb1
      have hx0 := (SliceR.atEn S1.out k hlt 0 (by omega)).1
      have hf0 := (SliceR.atEn S1.out k hlt 0 (by omega)).2
      rw [Nat.add_zero] at hx0 hf0
      generalize fm k 0 = y0 at hx0
      go_wp2_with fail
      refine (HN1.out _).mono ?_
      rintro e u2 ⟨rfl, hb2⟩
      have S2 : Hid (SliceR u2 B 3 (.slice (some ⟨g, 0, none⟩) n cap) n (updR fm k 0 (.string (markT (zn + 0))))) := SliceR.below (SliceR.set (S1.out) k 0 hlt (by omega) (.string (markT (zn + 0)))) hb2
      have G2 : Hid (w.grownBy u2 (some g)) := grownG_below (grownG_set (G1.out) (k * 3 + 0) (.string (markT (zn + 0)))) hb2
      clear hb2 hx0 hf0
      have hx1 := (SliceR.atEn S2.out k hlt 1 (by omega)).1
      have hf1 := (SliceR.atEn S2.out k hlt 1 (by omega)).2
      generalize (updR fm k 0 (.string (markT (zn + 0)))) k 1 = y1 at hx1
      go_wp2_with fail
      refine (HN2.out _).mono ?_
      rintro e u3 ⟨rfl, hb3⟩
      have S3 : Hid (SliceR u3 B 3 (.slice (some ⟨g, 0, none⟩) n cap) n (updR (updR fm k 0 (.string (markT (zn + 0)))) k 1 (.string (markT (zn + 1))))) := SliceR.below (SliceR.set (S2.out) k 1 hlt (by omega) (.string (markT (zn + 1)))) hb3
      have G3 : Hid (w.grownBy u3 (some g)) := grownG_below (grownG_set (G2.out) (k * 3 + 1) (.string (markT (zn + 1)))) hb3
      clear hb3 hx1 hf1
      have hx2 := (SliceR.atEn S3.out k hlt 2 (by omega)).1
      have hf2 := (SliceR.atEn S3.out k hlt 2 (by omega)).2
      generalize (updR (updR fm k 0 (.string (markT (zn + 0)))) k 1 (.string (markT (zn + 1)))) k 2 = y2 at hx2
      go_wp2
      go_roundw
      case rel =>
        refine ⟨k + 1, by omega, by go_num, val_int (by have := HNX.out; omega), ?_, ?_⟩
        · refine HEnd.out _ (SliceR.congr (SliceR.set (S3.out) k 2 hlt (by omega) (.string (markT (zn + 2)))) (fun j hj o ho => ?_))
          by_cases e : j = k
          · subst e
            rw [if_pos rfl]
            match o, ho with
            | 0, _ => simp [updR, markEnZ]
            | 1, _ => simp [updR, markEnZ]
            | 2, _ => simp [updR, markEnZ]
          · simp [updR, e]
        · intro G hG
          obtain rfl : g = G := Option.some.inj (hG (by omega))
          exact grownG_set (G3.out) (k * 3 + 2) (.string (markT (zn + 2)))
      case measure => simp [intOf]; omega
    · obtain rfl : k = n := by omega
      have HS : Hid (SliceR wr B 3 (.slice p k cap) k (markEnC q)) := SliceR.congr HR.out (fun j hj o ho => by unfold markedE; rw [if_pos hj])
      go_wp2
      go_ret
      exact ⟨rfl, HS.out, HB.out⟩
set_option maxRecDepth 10000 in
set_option maxHeartbeats 8000000 in
theorem heldEntryS_any (a : Value) (n B q : Nat) (w : World) (ha : SliceR w B 3 a n (markEnC q)) (hn : n ≤ 1048576) (hq : 0 < q) (hq2 : q ≤ 20971520) :
    Calls Tryd.prog 97 #[a, .int .i64 (q : Int)] w fun e w' => e = .returned (.int .i64 ((q + n * 3 : Nat) : Int)) ∧ Below w.heap.size w w' := by
  obtain ⟨p, cap, rfl, h1⟩ := ha
  have HG : Hid (0 < n → ∃ g, p = some ⟨g, 0, none⟩ ∧ B ≤ g ∧ g < w.heap.size ∧ ∀ j, j < n → ∀ o, o < 3 → w.cell? ⟨g, j * 3 + o, none⟩ = some (markEnC q j o) ∧ w.frozen? ⟨g, j * 3 + o, none⟩ = false) := h1
  clear h1
  have HM : Hid (∀ (m : Nat) (W : World), 0 < m → m ≤ 9223372036854775807 → Calls Tryd.prog 86 #[.int .i64 (m : Int)] W fun e w' => e = .returned (.string (markT m)) ∧ Below W.heap.size W w') := fun m W h1 h2 => markText_any m W h1 h2
  go_enter Tryd.func97, Tryd.ntmps97
  go_wp2
  go_loopw [1, 4, 5] (fun kk r i wr => ∃ k : Nat, k ≤ n ∧ i = .int .i64 k ∧ kk = .int .i64 ((q + k * 3 : Nat) : Int) ∧ Hid (Below w.heap.size w wr)) (fun _ _ i _ => n - (intOf i).toNat)
  case atStart => exact ⟨0, by omega, rfl, by go_num, Below.refl _ _⟩
  case round =>
    obtain ⟨k, hk, rfl, rfl, HB⟩ := hrel
    by_cases hlt : k < n
    · obtain ⟨g, rfl, -, hg, hc⟩ := HG.out (by omega)
      have k0 : (0 : Int) ≤ k := by omega
      have k1 : (k : Int) < n := by omega
      have hgr : g < wr.heap.size := Nat.lt_of_lt_of_le hg HB.out.size
      have hzb : q + k * 3 ≤ 50000000 := by omega
      have hz0 : 0 < q + k * 3 := by omega
      have hx : ∀ o, o < 3 → wr.cell? ⟨g, k * 3 + o, none⟩ = some (markEnZ (q + k * 3) o) := fun o ho => by rw [(bcell HB.out).1 _ _ hg]; exact (hc k hlt o ho).1
      have HNX : Hid (((q + k * 3 : Nat) : Int) + 3 = ((q + (k + 1) * 3 : Nat) : Int)) := by show _ = _; omega
      clear hc
      generalize q + k * 3 = zn at *
      have c0 : wr.cell? ⟨g, k * 3, none⟩ = some (.string (markT (zn + 0))) := hx 0 (by omega)
      have c1 : wr.cell? ⟨g, k * 3 + 1, none⟩ = some (.string (markT (zn + 1))) := hx 1 (by omega)
      have c2 : wr.cell? ⟨g, k * 3 + 2, none⟩ = some (.string (markT (zn + 2))) := hx 2 (by omega)
      have HN0 : Hid (∀ W, Calls Tryd.prog 86 #[.int .i64 ((zn : Int))] W fun e w' => e = .returned (.string (markT (zn + 0))) ∧ Below W.heap.size W w') := fun W => by
        have h := HM.out (zn + 0) W (by omega) (by omega)
        have e : ((zn + 0 : Nat) : Int) = (zn : Int) := by omega
        rw [e] at h; exact h
      have HN1 : Hid (∀ W, Calls Tryd.prog 86 #[.int .i64 ((zn : Int) + 1)] W fun e w' => e = .returned (.string (markT (zn + 1))) ∧ Below W.heap.size W w') := fun W => by
        have h := HM.out (zn + 1) W (by omega) (by omega)
        have e : ((zn + 1 : Nat) : Int) = (zn : Int) + 1 := by omega
        rw [e] at h; exact h
      have HN2 : Hid (∀ W, Calls Tryd.prog 86 #[.int .i64 ((zn : Int) + 1 + 1)] W fun e w' => e = .returned (.string (markT (zn + 2))) ∧ Below W.heap.size W w') := fun W => by
        have h := HM.out (zn + 2) W (by omega) (by omega)
        have e : ((zn + 2 : Nat) : Int) = (zn : Int) + 1 + 1 := by omega
        rw [e] at h; exact h
      generalize markT (zn + 0) = t0 at *
      generalize markT (zn + 1) = t1 at *
      generalize markT (zn + 2) = t2 at *
      clear hx HM
      go_wp2_with fail
      go_region_held3 (fun w' => w'.cell? ⟨g, k * 3, none⟩ = some (.string t0) ∧ w'.cell? ⟨g, k * 3 + 1, none⟩ = some (.string t1) ∧ w'.cell? ⟨g, k * 3 + 2, none⟩ = some (.string t2)) (go_keep)
        (first | (go_at_call 86; refine (HN0.out _).mono ?_; rintro e u1 ⟨rfl, hb1⟩; have A1 : Below wr.heap.size wr u1 := (Below.drew (Below.refl _ _)).trans hb1; have g1 : g < u1.heap.size := Nat.lt_of_lt_of_le hgr A1.size; have E1 : Hid (Below w.heap.size w u1) := HB.out.trans (A1.mono HB.out.size); have d1_0 : u1.cell? ⟨g, k * 3, none⟩ = some (.string t0) := ((bcell A1).1 _ _ hgr).trans c0; have d1_1 : u1.cell? ⟨g, k * 3 + 1, none⟩ = some (.string t1) := ((bcell A1).1 _ _ hgr).trans c1; have d1_2 : u1.cell? ⟨g, k * 3 + 2, none⟩ = some (.string t2) := ((bcell A1).1 _ _ hgr).trans c2))
      clear hb1 A1 c0 c1 c2
      go_wp2_with fail
      go_region_held3 (fun w' => w'.cell? ⟨g, k * 3 + 1, none⟩ = some (.string t1) ∧ w'.cell? ⟨g, k * 3 + 2, none⟩ = some (.string t2)) (go_keep)
        (first | (go_at_call 86; refine (HN1.out _).mono ?_; rintro e u2 ⟨rfl, hb2⟩; have A2 : Below u1.heap.size u1 u2 := (Below.drew (Below.refl _ _)).trans hb2; have g2 : g < u2.heap.size := Nat.lt_of_lt_of_le g1 A2.size; have E2 : Hid (Below w.heap.size w u2) := E1.out.trans (A2.mono E1.out.size); have d2_1 : u2.cell? ⟨g, k * 3 + 1, none⟩ = some (.string t1) := ((bcell A2).1 _ _ g1).trans d1_1; have d2_2 : u2.cell? ⟨g, k * 3 + 2, none⟩ = some (.string t2) := ((bcell A2).1 _ _ g1).trans d1_2))
      clear hb2 A2 d1_0 d1_1 d1_2
      go_wp2_with fail
      go_region_held3 (fun w' => w'.cell? ⟨g, k * 3 + 2, none⟩ = some (.string t2)) (go_keep)
        (first | (go_at_call 86; refine (HN2.out _).mono ?_; rintro e u3 ⟨rfl, hb3⟩; have A3 : Below u2.heap.size u2 u3 := (Below.drew (Below.refl _ _)).trans hb3; have g3 : g < u3.heap.size := Nat.lt_of_lt_of_le g2 A3.size; have E3 : Hid (Below w.heap.size w u3) := E2.out.trans (A3.mono E2.out.size); have d3_2 : u3.cell? ⟨g, k * 3 + 2, none⟩ = some (.string t2) := ((bcell A3).1 _ _ g2).trans d2_2))
      clear hb3 A3 d2_1 d2_2
      go_wp2
      go_roundw
      case rel => exact ⟨k + 1, by omega, by go_num, val_int (by have := HNX.out; omega), E3⟩
      case measure => simp [intOf]; omega
    · obtain rfl : k = n := by omega
      go_wp2
      go_ret
      exact ⟨rfl, HB.out⟩
end Go.Proofs.YtimmoclemcnhnaaDoor

/- Slices of structs while others are marked. -/
namespace Go.Proofs.YtimmoclemcnhnaaDoor
open Go.RowKit

theorem SliceR.place {w : World} {B sz n : Nat} {v : Value} {f : Nat → Nat → Value} (h : SliceR w B sz v n f) : 0 < n → ∃ g, v.ownBlock = some g ∧ B ≤ g ∧ g < w.heap.size := by
  obtain ⟨p, cap, rfl, h⟩ := h
  intro hn
  obtain ⟨g, rfl, hB, hg, -⟩ := h hn
  exact ⟨g, rfl, hB, hg⟩
theorem SliceR.keepG {w w' : World} {B sz n G : Nat} {v : Value} {f : Nat → Nat → Value} (h : SliceR w B sz v n f) (hg : w.grownBy w' (some G)) (hne : 0 < n → ∃ g, v.ownBlock = some g ∧ g ≠ G) : SliceR w' B sz v n f := by
  obtain ⟨p, cap, rfl, h⟩ := h
  refine ⟨p, cap, rfl, fun hn => ?_⟩
  obtain ⟨g, rfl, hB, hgw, hc⟩ := h hn
  obtain ⟨g', e, hn'⟩ := hne hn
  obtain rfl : g = g' := Option.some.inj e
  have hb : w'.heap[g]? = w.heap[g]? := hg.block g hgw (fun e => hn' (Option.some.inj e))
  refine ⟨g, rfl, hB, Nat.lt_of_lt_of_le hgw hg.size, fun j hj o ho => ⟨?_, ?_⟩⟩
  · rw [World.cell?_of_block (a := ⟨g, j * sz + o, none⟩) hb]; exact (hc j hj o ho).1
  · rw [World.frozen?_of_block (a := ⟨g, j * sz + o, none⟩) hb]; exact (hc j hj o ho).2
end Go.Proofs.YtimmoclemcnhnaaDoor

/- Slices of entrys while others are marked. -/
namespace Go.Proofs.YtimmoclemcnhnaaDoor
open Go.RowKit

theorem SliceE.keepG {w w' : World} {B G : Nat} {v : Value} {L : List En} (h : SliceE w B v L) (hg : w.grownBy w' (some G)) (hne : 0 < L.length → ∃ g, v.ownBlock = some g ∧ g ≠ G) : SliceE w' B v L := ⟨h.1.keepG hg hne, h.2⟩
theorem markE_call (a : Value) (L : List En) (B : Nat) (w : World) (ha : SliceE w B a L) (hB : B ≤ w.heap.size) (hn : L.length ≤ 1048576) :
    Calls Tryd.prog 40 #[a, .int .i64 1] w fun e w' => e = .returned (.int .i64 ((1 + L.length * 3 : Nat) : Int)) ∧ SliceR w' B 3 a L.length (markEnC 1) ∧ ∃ G, B ≤ G ∧ (0 < L.length → a.ownBlock = some G) ∧ (¬ 0 < L.length → w.heap.size ≤ G) ∧ w.grownBy w' (some G) := by
  refine (markEntryS_any a L.length B 1 _ w ha.1 hn (by decide) (by decide)).mono ?_
  rintro e w' ⟨rfl, h2, h3⟩
  refine ⟨rfl, h2, ?_⟩
  by_cases h0 : 0 < L.length
  · obtain ⟨g, e, hBg, -⟩ := ha.1.place h0
    exact ⟨g, hBg, fun _ => e, fun h => absurd h0 h, h3 g (fun _ => e)⟩
  · exact ⟨w.heap.size, hB, fun h => absurd h h0, fun _ => Nat.le_refl _, h3 _ (fun h => absurd h h0)⟩
end Go.Proofs.YtimmoclemcnhnaaDoor

/- The laws' eqAreaOut, markAreaOut, heldAreaOut; an answer in its box. -/
namespace Go.Proofs.YtimmoclemcnhnaaDoor
open Go.RowKit

set_option maxRecDepth 10000 in
set_option maxHeartbeats 4000000 in
theorem eqAO_any (a b : Value) (Z : AO) (B B' : Nat) (w : World) (ha : SliceE w B a Z.ar) (hb : SliceE w B' b Z.ar) (hn : Z.ar.length ≤ 1048576) :
    Calls Tryd.prog 38 #[.agg #[a, .string Z.va, .int .i64 Z.co], .agg #[b, .string Z.va, .int .i64 Z.co]] w fun e w' => e = .returned (.bool true) ∧ Below w.heap.size w w' := by
  have KE : Hid (∀ W, Below w.heap.size w W → Calls Tryd.prog 39 #[a, b] W fun e w' => e = .returned (.bool true) ∧ Below W.heap.size W w') := fun W h => eqEntryS_any a b Z.ar B B' W (ha.below h) (hb.below h) hn
  obtain ⟨p, ca, hva⟩ : ∃ p ca, a = .slice p Z.ar.length ca := by obtain ⟨⟨p, cap, e, -⟩, -⟩ := ha; exact ⟨p, cap, e⟩
  obtain ⟨q, cb, hvb⟩ : ∃ q cb, b = .slice q Z.ar.length cb := by obtain ⟨⟨p, cap, e, -⟩, -⟩ := hb; exact ⟨p, cap, e⟩
  clear ha hb
  generalize Z.ar.length = m at *
  obtain ⟨za, zv, zc⟩ := Z
  dsimp only at *
  subst hva hvb
  obtain ⟨W0, hW⟩ : ∃ W0, W0 = (w.alloc (.cells #[.slice p m ca, .string zv, .int .i64 zc] 56)).alloc (.cells #[.slice q m cb, .string zv, .int .i64 zc] 56) := ⟨_, rfl⟩
  have hW0 : Hid (W0 = (w.alloc (.cells #[.slice p m ca, .string zv, .int .i64 zc] 56)).alloc (.cells #[.slice q m cb, .string zv, .int .i64 zc] 56)) := hW
  have B0 : Hid (Below w.heap.size w W0) := by
    show Below _ _ _
    rw [hW]; exact ((Below.refl _ _).alloc (Nat.le_refl _) _).alloc (by simp) _
  have c0 : W0.cell? ⟨w.heap.size, 0, none⟩ = some (.slice p m ca) := by rw [hW]; simp
  have c1 : W0.cell? ⟨w.heap.size, 1, none⟩ = some (.string zv) := by rw [hW]; simp
  have c2 : W0.cell? ⟨w.heap.size, 2, none⟩ = some (.int .i64 zc) := by rw [hW]; simp
  have d0 : W0.cell? ⟨w.heap.size + 1, 0, none⟩ = some (.slice q m cb) := by rw [hW]; exact (World.cell?_alloc_at _ _ _ _ (by simp)).trans rfl
  have d1 : W0.cell? ⟨w.heap.size + 1, 1, none⟩ = some (.string zv) := by rw [hW]; exact (World.cell?_alloc_at _ _ _ _ (by simp)).trans rfl
  have d2 : W0.cell? ⟨w.heap.size + 1, 2, none⟩ = some (.int .i64 zc) := by rw [hW]; exact (World.cell?_alloc_at _ _ _ _ (by simp)).trans rfl
  have z1 : w.heap.size + 1 < W0.heap.size := by rw [hW]; simp
  clear hW
  go_enter Tryd.func38, Tryd.ntmps38
  go_upto_region 1 with fail
  rw [← hW0.out]
  clear hW0
  generalize hbb : w.heap.size = b at *
  have z0 : b < W0.heap.size := by omega
  go_wp2_with fail
  refine (KE.out _ B0.out).mono ?_
  rintro e w1 ⟨rfl, hb1⟩
  have e1 : w1.cell? ⟨b, 1, none⟩ = some (.string zv) := ((bcell hb1).1 _ _ z0).trans c1
  have e2 : w1.cell? ⟨b, 2, none⟩ = some (.int .i64 zc) := ((bcell hb1).1 _ _ z0).trans c2
  have f1 : w1.cell? ⟨b + 1, 1, none⟩ = some (.string zv) := ((bcell hb1).1 _ _ z1).trans d1
  have f2 : w1.cell? ⟨b + 1, 2, none⟩ = some (.int .i64 zc) := ((bcell hb1).1 _ _ z1).trans d2
  have B1 : Hid (Below b w w1) := B0.out.trans (hb1.mono (by omega))
  clear hb1
  go_wp2
  go_ret
  exact ⟨rfl, by rw [hbb]; exact B1.out⟩
set_option maxRecDepth 10000 in
set_option maxHeartbeats 4000000 in
theorem markAO_call (a : Value) (zv : ByteArray) (zc : Int) (L : List En) (B : Nat) (w : World) (ha : SliceE w B a L) (hB : B ≤ w.heap.size) (hn : L.length ≤ 1048576) :
    Calls Tryd.prog 41 #[.agg #[a, .string zv, .int .i64 zc], .int .i64 1] w fun e w' => e = .returned (.int .i64 ((1 + L.length * 3 : Nat) : Int)) ∧ SliceR w' B 3 a L.length (markEnC 1) ∧ ∃ G, B ≤ G ∧ (0 < L.length → a.ownBlock = some G) ∧ (¬ 0 < L.length → w.heap.size ≤ G) ∧ w.grownBy w' (some G) := by
  obtain ⟨p, ca, hva⟩ : ∃ p ca, a = .slice p L.length ca := by obtain ⟨⟨p, cap, e, -⟩, -⟩ := ha; exact ⟨p, cap, e⟩
  have KM : Hid (∀ W, Below w.heap.size w W → Calls Tryd.prog 40 #[a, .int .i64 1] W fun e w' => e = .returned (.int .i64 ((1 + L.length * 3 : Nat) : Int)) ∧ SliceR w' B 3 a L.length (markEnC 1) ∧ ∃ G, B ≤ G ∧ (0 < L.length → a.ownBlock = some G) ∧ (¬ 0 < L.length → W.heap.size ≤ G) ∧ W.grownBy w' (some G)) := fun W hb => markE_call a L B W (ha.below hb) (Nat.le_trans hB hb.size) hn
  clear ha
  have hq : Hid (((1 + L.length * 3 : Nat) : Int) = ((1 + L.length * 3 : Nat) : Int)) := rfl
  generalize hm : ((1 + L.length * 3 : Nat) : Int) = mq at *
  subst hva
  go_enter Tryd.func41, Tryd.ntmps41
  go_wp2_with fail
  refine (KM.out _ ((Below.refl _ _).alloc (Nat.le_refl _) _)).mono ?_
  rintro e w1 ⟨rfl, hr, G, h1, h2, h3, hg⟩
  have HF : Hid (SliceR w1 B 3 (.slice p L.length ca) L.length (markEnC 1) ∧ ∃ G, B ≤ G ∧ (0 < L.length → (Value.slice p L.length ca).ownBlock = some G) ∧ (¬ 0 < L.length → w.heap.size ≤ G) ∧ w.grownBy w1 (some G)) := ⟨hr, G, h1, h2, fun h => Nat.le_trans (by simp) (h3 h), (World.grownBy_alloc w _ (some G)).andThen hg (fun j hj => .inr hj)⟩
  clear hr h1 h2 h3 hg
  go_wp2
  go_ret
  exact ⟨rfl, HF.out⟩
set_option maxRecDepth 10000 in
set_option maxHeartbeats 4000000 in
theorem heldAO_any (a : Value) (zv : ByteArray) (zc : Int) (n B : Nat) (w : World) (ha : SliceR w B 3 a n (markEnC 1)) (hn : n ≤ 1048576) :
    Calls Tryd.prog 42 #[.agg #[a, .string zv, .int .i64 zc], .int .i64 1] w fun e w' => e = .returned (.int .i64 ((1 + n * 3 : Nat) : Int)) ∧ Below w.heap.size w w' := by
  obtain ⟨p, ca, hva⟩ : ∃ p ca, a = .slice p n ca := by obtain ⟨p, cap, e, -⟩ := ha; exact ⟨p, cap, e⟩
  have KM : Hid (∀ W, Below w.heap.size w W → Calls Tryd.prog 97 #[a, .int .i64 1] W fun e w' => e = .returned (.int .i64 ((1 + n * 3 : Nat) : Int)) ∧ Below W.heap.size W w') := fun W hb => heldEntryS_any a n B 1 W (SliceR.below ha hb) hn (by decide) (by decide)
  clear ha
  have hm1 : decide ((((1 + n * 3 : Nat) : Int)) < 0) = false := by rw [decide_eq_false_iff_not]; omega
  generalize hm : ((1 + n * 3 : Nat) : Int) = mq at *
  subst hva
  go_enter Tryd.func42, Tryd.ntmps42
  go_wp2_with fail
  refine (KM.out _ ((Below.refl _ _).alloc (Nat.le_refl _) _)).mono ?_
  rintro e w1 ⟨rfl, hb⟩
  have HF : Hid (Below w.heap.size w w1) := ((Below.refl _ _).alloc (Nat.le_refl _) _).trans (hb.mono (by simp))
  clear hb
  go_wp2
  go_ret
  exact ⟨rfl, HF.out⟩
/-- an answer lies in its box -/
def InBox (W : World) (b : Nat) (s : Value) (Z : AO) : Prop := W.cell? ⟨b, 0, none⟩ = some s ∧ W.cell? ⟨b, 1, none⟩ = some (.string Z.va) ∧ W.cell? ⟨b, 2, none⟩ = some (.int .i64 Z.co) ∧ b < W.heap.size
theorem InBox.below {W W' : World} {b : Nat} {s : Value} {Z : AO} (h : InBox W b s Z) (hb : Below W.heap.size W W') : InBox W' b s Z :=
  ⟨((bcell hb).1 _ _ h.2.2.2).trans h.1, ((bcell hb).1 _ _ h.2.2.2).trans h.2.1, ((bcell hb).1 _ _ h.2.2.2).trans h.2.2.1, Nat.lt_of_lt_of_le h.2.2.2 hb.size⟩
theorem InBox.grown {W W' : World} {b G : Nat} {s : Value} {Z : AO} (h : InBox W b s Z) (hg : W.grownBy W' (some G)) (hne : b ≠ G) : InBox W' b s Z := by
  have hb : W'.heap[b]? = W.heap[b]? := hg.block b h.2.2.2 (fun e => hne (Option.some.inj e))
  exact ⟨(World.cell?_of_block (a := ⟨b, 0, none⟩) hb).trans h.1, (World.cell?_of_block (a := ⟨b, 1, none⟩) hb).trans h.2.1, (World.cell?_of_block (a := ⟨b, 2, none⟩) hb).trans h.2.2.1, Nat.lt_of_lt_of_le h.2.2.2 hg.size⟩
theorem inBox_made (W : World) (s : Value) (Z : AO) (t : TypeId) : InBox (W.alloc (.cells #[s, .string Z.va, .int .i64 Z.co] t)) W.heap.size s Z := ⟨by simp, by simp, by simp, by simp⟩
theorem withoutE_len (L : List En) (key name : ByteArray) : (withoutE L key name).length ≤ L.length := List.length_filter_le _ _
theorem getO_len (L : List En) (key name : ByteArray) : (getO L key name).ar.length ≤ 17 := by
  unfold getO
  split
  · rename_i h
    have := (areaB_parts (beginI_ok h).1).1
    split
    · exact Nat.zero_le _
    · show L.length ≤ 17; omega
  · exact Nat.zero_le _
theorem dropO_len (L : List En) (key name : ByteArray) : (dropO L key name).ar.length ≤ 17 := by
  unfold dropO
  split
  · rename_i h
    have := (areaB_parts (beginI_ok h).1).1
    have h2 := withoutE_len L key name
    split
    · exact Nat.zero_le _
    · show (withoutE L key name).length ≤ 17; omega
  · exact Nat.zero_le _
theorem putO_len (L : List En) (key name value : ByteArray) : (putO L key name value).ar.length ≤ 17 := by
  unfold putO
  split
  · rename_i h
    have := (areaB_parts (beginI_ok h).1).1
    have h2 := putE_len L ⟨key, name, value⟩
    split
    · show (putE L ⟨key, name, value⟩).length ≤ 17; omega
    · exact Nat.zero_le _
  · exact Nat.zero_le _
end Go.Proofs.YtimmoclemcnhnaaDoor

/- The law FnExactAreaRight, walked. -/
namespace Go.Proofs.YtimmoclemcnhnaaDoor
open Go.RowKit

/-- the texts of entries are no longer than what is asked -/
def szE (L : List En) : Prop := ∀ i, i < L.length → (atE L i).ke.size + (atE L i).na.size + (atE L i).va.size ≤ 1048576
end Go.Proofs.YtimmoclemcnhnaaDoor

/- The law FnExactAreaPut, walked. Written by lawareaout.py. -/
namespace Go.Proofs.YtimmoclemcnhnaaDoor
open Go.RowKit

set_option maxRecDepth 10000 in
set_option maxHeartbeats 8000000 in
theorem lawAreaPut_any (a : Option Addr) (cap : Nat) (L : List En) (key name value : ByteArray) (w : World) (hE : ErrTy w) (hr : EnRow w a L) (hn : L.length ≤ maxLen) :
    Calls Tryd.prog 5 #[.slice a L.length cap, .string key, .string name, .string value] w fun e w' => e = .returned (.bool true) ∧ Below w.heap.size w w' := by
  have HR : Hid (EnRow w a L) := hr
  have HE : Hid (ErrTy w) := hE
  clear hr hE
  by_cases hkey : 1048576 < key.size
  · go_enter Tryd.func5, Tryd.ntmps5
    go_wp2
    go_ret
    exact ⟨rfl, Below.refl _ _⟩
  have bkey : key.size ≤ 1048576 := by omega
  by_cases hname : 1048576 < name.size
  · go_enter Tryd.func5, Tryd.ntmps5
    go_wp2
    go_ret
    exact ⟨rfl, Below.refl _ _⟩
  have bname : name.size ≤ 1048576 := by omega
  by_cases hvalue : 1048576 < value.size
  · go_enter Tryd.func5, Tryd.ntmps5
    go_wp2
    go_ret
    exact ⟨rfl, Below.refl _ _⟩
  have bvalue : value.size ≤ 1048576 := by omega
  go_enter Tryd.func5, Tryd.ntmps5
  go_wp2_with fail
  refine (szEntryS_any a cap L 1048576 _ HR.out hn (by decide) (by decide)).mono ?_
  rintro e w0 ⟨⟨r, rfl, hr⟩, hb0⟩
  have B0 : Hid (Below w.heap.size w w0) := hb0
  clear hb0
  rcases hr with hr | ⟨r0, r1, hl, hf⟩
  · go_wp2
    go_ret
    exact ⟨rfl, B0.out⟩
  have q : decide (r < 0) = false := by rw [decide_eq_false_iff_not]; omega
  have HF : Hid (szE L) := hf
  clear hf r0 r1
  have KT : Hid (∀ W, Below w.heap.size w W → Calls Tryd.prog 36 #[.slice a L.length cap] W fun e w' => ∃ v, e = .returned v ∧ SliceE w' W.heap.size v L ∧ Below W.heap.size W w') := fun W hb => toEntryS_any a cap L W (HR.out.below hb) hl
  have KS : Hid (∀ (v : Value) (B : Nat) (W : World), SliceE W B v L → Calls Tryd.prog 35 #[v, .string key, .string name, .string value] W fun e w' => ∃ v', e = .returned v' ∧ AnsE w' W.heap.size v' (putO L key name value) ∧ Below W.heap.size W w') := fun v B W s => specAreaPut_any v L key name value B W s hl (fun i hi => by have := HF.out i hi; omega) bname
  have KI : Hid (∀ (v : Value) (B : Nat) (W : World), Below w.heap.size w W → SliceE W B v L → Calls Tryd.prog 37 #[v, .string key, .string name, .string value] W fun e w' => ∃ v', e = .returned v' ∧ AnsE w' W.heap.size v' (putO L key name value) ∧ Below W.heap.size W w') := fun v B W a b => areaPut_any v L key name value B W (HE.out.on a) b hl (fun i hi => by have := HF.out i hi; omega) bkey bname bvalue
  have hZ : (putO L key name value).ar.length ≤ 17 := putO_len L key name value
  clear HF HR HE
  generalize putO L key name value = Z at *
  go_wp2_with fail
  refine (KT.out _ B0.out).mono ?_
  rintro e w1 ⟨v1, rfl, s1, hb1⟩
  have B1 : Hid (Below w.heap.size w w1) := B0.out.trans (hb1.mono B0.out.size)
  have S1 : Hid (SliceE w1 w0.heap.size v1 L) := s1
  clear s1 hb1
  go_wp2_with fail
  refine (KS.out _ _ _ S1.out).mono ?_
  rintro e w2 ⟨vs, rfl, ⟨ss, rfl, s2⟩, hb2⟩
  obtain ⟨pss, css, hvss⟩ : ∃ p c, ss = .slice p Z.ar.length c := by obtain ⟨⟨p, cap, e, -⟩, -⟩ := s2; exact ⟨p, cap, e⟩
  obtain ⟨W2, hW2⟩ : ∃ W, W = w2.alloc (.cells #[ss, .string Z.va, .int .i64 Z.co] 56) := ⟨_, rfl⟩
  have HW2 : Hid (W2 = w2.alloc (.cells #[ss, .string Z.va, .int .i64 Z.co] 56)) := hW2
  have AW2 : Below w2.heap.size w2 W2 := by rw [hW2]; exact (Below.refl _ _).alloc (Nat.le_refl _) _
  have Iss : Hid (InBox W2 w2.heap.size ss Z) := by show InBox _ _ _ _; rw [hW2]; exact inBox_made _ _ _ _
  have zW2 : w2.heap.size < W2.heap.size := by rw [hW2]; simp
  have B2 : Hid (Below w.heap.size w W2) := (B1.out.trans (hb2.mono B1.out.size)).trans (AW2.mono (Nat.le_trans B1.out.size hb2.size))
  have SS : Hid (SliceE W2 w1.heap.size ss Z.ar) := s2.below AW2
  have P2 : Hid (0 < Z.ar.length → ∃ g, ss.ownBlock = some g ∧ w1.heap.size ≤ g ∧ g < w2.heap.size) := s2.1.place
  have z12 : w1.heap.size ≤ w2.heap.size := hb2.size
  clear s2 hb2 S1 KS AW2 hW2
  have hvs := hvss
  clear hvss
  subst hvs
  go_upto_region 12 with fail
  rw [← HW2.out]
  clear HW2
  go_wp2_with fail
  refine (KT.out _ B2.out).mono ?_
  rintro e w3 ⟨vx, rfl, s3, hb3⟩
  have B3 : Hid (Below w.heap.size w w3) := B2.out.trans (hb3.mono B2.out.size)
  have SS_w3 : Hid (SliceE w3 w1.heap.size (.slice pss Z.ar.length css) Z.ar) := SS.out.below hb3
  clear SS
  have Iss_w3 : Hid (InBox w3 w2.heap.size (.slice pss Z.ar.length css) Z) := Iss.out.below hb3
  clear Iss
  have SX : Hid (SliceE w3 W2.heap.size vx L) := s3
  have P3 : Hid (0 < L.length → ∃ g, vx.ownBlock = some g ∧ W2.heap.size ≤ g ∧ g < w3.heap.size) := s3.1.place
  have z23 : W2.heap.size ≤ w3.heap.size := hb3.size
  clear s3 hb3
  go_wp2_with fail
  refine (KI.out _ _ _ B3.out SX.out).mono ?_
  rintro e w4 ⟨vg, rfl, ⟨sg, rfl, s4⟩, hb4⟩
  obtain ⟨psg, csg, hvsg⟩ : ∃ p c, sg = .slice p Z.ar.length c := by obtain ⟨⟨p, cap, e, -⟩, -⟩ := s4; exact ⟨p, cap, e⟩
  obtain ⟨W4, hW4⟩ : ∃ W, W = w4.alloc (.cells #[sg, .string Z.va, .int .i64 Z.co] 56) := ⟨_, rfl⟩
  have HW4 : Hid (W4 = w4.alloc (.cells #[sg, .string Z.va, .int .i64 Z.co] 56)) := hW4
  have AW4 : Below w4.heap.size w4 W4 := by rw [hW4]; exact (Below.refl _ _).alloc (Nat.le_refl _) _
  have Isg : Hid (InBox W4 w4.heap.size sg Z) := by show InBox _ _ _ _; rw [hW4]; exact inBox_made _ _ _ _
  have zW4 : w4.heap.size < W4.heap.size := by rw [hW4]; simp
  have A4 : Below w3.heap.size w3 W4 := hb4.trans (AW4.mono hb4.size)
  have B4 : Hid (Below w.heap.size w W4) := B3.out.trans (A4.mono B3.out.size)
  have SS_W4 : Hid (SliceE W4 w1.heap.size (.slice pss Z.ar.length css) Z.ar) := SS_w3.out.below A4
  clear SS_w3
  have Iss_W4 : Hid (InBox W4 w2.heap.size (.slice pss Z.ar.length css) Z) := Iss_w3.out.below A4
  clear Iss_w3
  have SX_W4 : Hid (SliceE W4 W2.heap.size vx L) := SX.out.below A4
  clear SX
  have SG : Hid (SliceE W4 w3.heap.size sg Z.ar) := s4.below AW4
  have P4 : Hid (0 < Z.ar.length → ∃ g, sg.ownBlock = some g ∧ w3.heap.size ≤ g ∧ g < w4.heap.size) := s4.1.place
  have z34 : w3.heap.size ≤ w4.heap.size := hb4.size
  clear s4 hb4 AW4 hW4 A4
  have hvg := hvsg
  clear hvsg
  subst hvg
  go_upto_region 14 with fail
  rw [← HW4.out]
  clear HW4
  obtain ⟨u0, u1, u2, u3⟩ := Iss_W4.out
  obtain ⟨y0, y1, y2, y3⟩ := Isg.out
  go_wp2_with fail
  refine (eqAO_any (.slice psg Z.ar.length csg) (.slice pss Z.ar.length css) Z _ _ _ SG.out SS_W4.out (by omega)).mono ?_
  rintro e w5 ⟨rfl, hbw5⟩
  have Bw5 : Hid (Below w.heap.size w w5) := B4.out.trans (hbw5.mono B4.out.size)
  clear u0 u1 u2 u3
  clear y0 y1 y2 y3
  have SS_w5 : Hid (SliceE w5 w1.heap.size (.slice pss Z.ar.length css) Z.ar) := SS_W4.out.below hbw5
  clear SS_W4
  have Iss_w5 : Hid (InBox w5 w2.heap.size (.slice pss Z.ar.length css) Z) := Iss_W4.out.below hbw5
  clear Iss_W4
  have SX_w5 : Hid (SliceE w5 W2.heap.size vx L) := SX_W4.out.below hbw5
  clear SX_W4
  have SG_w5 : Hid (SliceE w5 w3.heap.size (.slice psg Z.ar.length csg) Z.ar) := SG.out.below hbw5
  clear SG
  have Isg_w5 : Hid (InBox w5 w4.heap.size (.slice psg Z.ar.length csg) Z) := Isg.out.below hbw5
  clear Isg
  have z45 : W4.heap.size ≤ w5.heap.size := hbw5.size
  clear hbw5
  go_wp2_with fail
  refine (KT.out _ Bw5.out).mono ?_
  rintro e w6 ⟨v6, rfl, s6, hb6⟩
  have B6 : Hid (Below w.heap.size w w6) := Bw5.out.trans (hb6.mono Bw5.out.size)
  have SS_w6 : Hid (SliceE w6 w1.heap.size (.slice pss Z.ar.length css) Z.ar) := SS_w5.out.below hb6
  clear SS_w5
  have Iss_w6 : Hid (InBox w6 w2.heap.size (.slice pss Z.ar.length css) Z) := Iss_w5.out.below hb6
  clear Iss_w5
  have SX_w6 : Hid (SliceE w6 W2.heap.size vx L) := SX_w5.out.below hb6
  clear SX_w5
  have SG_w6 : Hid (SliceE w6 w3.heap.size (.slice psg Z.ar.length csg) Z.ar) := SG_w5.out.below hb6
  clear SG_w5
  have Isg_w6 : Hid (InBox w6 w4.heap.size (.slice psg Z.ar.length csg) Z) := Isg_w5.out.below hb6
  clear Isg_w5
  have S6 : Hid (SliceE w6 w5.heap.size v6 L) := s6
  have z56 : w5.heap.size ≤ w6.heap.size := hb6.size
  clear hb6 s6
  go_wp2_with fail
  refine (eqEntryS_any vx v6 L _ _ _ SX_w6.out S6.out hl).mono ?_
  rintro e w7 ⟨rfl, hb7⟩
  have B7 : Hid (Below w.heap.size w w7) := B6.out.trans (hb7.mono B6.out.size)
  have SS_w7 : Hid (SliceE w7 w1.heap.size (.slice pss Z.ar.length css) Z.ar) := SS_w6.out.below hb7
  clear SS_w6
  have Iss_w7 : Hid (InBox w7 w2.heap.size (.slice pss Z.ar.length css) Z) := Iss_w6.out.below hb7
  clear Iss_w6
  have SX_w7 : Hid (SliceE w7 W2.heap.size vx L) := SX_w6.out.below hb7
  clear SX_w6
  have SG_w7 : Hid (SliceE w7 w3.heap.size (.slice psg Z.ar.length csg) Z.ar) := SG_w6.out.below hb7
  clear SG_w6
  have Isg_w7 : Hid (InBox w7 w4.heap.size (.slice psg Z.ar.length csg) Z) := Isg_w6.out.below hb7
  clear Isg_w6
  have z67 : w6.heap.size ≤ w7.heap.size := hb7.size
  clear hb7 S6
  go_wp2_with fail
  refine (markE_call vx L W2.heap.size w7 SX_w7.out (by omega) hl).mono ?_
  rintro e w8 ⟨rfl, -, G, hG1, hG2, hG3, hg8⟩
  have hGs : w2.heap.size ≠ G := by omega
  have hGg : w4.heap.size ≠ G := by
    by_cases h0 : 0 < L.length
    · obtain ⟨g', e', h1', h2'⟩ := P3.out h0
      have e2 := hG2 h0
      rw [e'] at e2
      have := Option.some.inj e2
      omega
    · have := hG3 h0; omega
  have SS_w8 : Hid (SliceE w8 w1.heap.size (.slice pss Z.ar.length css) Z.ar) := SliceE.keepG SS_w7.out hg8 (fun h => by obtain ⟨g, e, h1, h2⟩ := P2.out h; exact ⟨g, e, by omega⟩)
  have SG_w8 : Hid (SliceE w8 w3.heap.size (.slice psg Z.ar.length csg) Z.ar) := SliceE.keepG SG_w7.out hg8 (fun h => by
    obtain ⟨g, e, h1, h2⟩ := P4.out h
    refine ⟨g, e, ?_⟩
    by_cases h0 : 0 < L.length
    · obtain ⟨g', e', h1', h2'⟩ := P3.out h0
      have e2 := hG2 h0
      rw [e'] at e2
      have := Option.some.inj e2
      omega
    · have := hG3 h0; omega)
  have Iss_w8 : Hid (InBox w8 w2.heap.size (.slice pss Z.ar.length css) Z) := Iss_w7.out.grown hg8 hGs
  have Isg_w8 : Hid (InBox w8 w4.heap.size (.slice psg Z.ar.length csg) Z) := Isg_w7.out.grown hg8 hGg
  have B8 : Hid (Below w.heap.size w w8) := B7.out.grown hg8 B7.out.size (fun j hj => by have := Option.some.inj hj; have := B2.out.size; omega)
  have z78 : w7.heap.size ≤ w8.heap.size := hg8.size
  have hm0 : decide ((((1 + L.length * 3 : Nat) : Int)) < 0) = false := by rw [decide_eq_false_iff_not]; omega
  clear hg8 hG1 hG2 hG3 hGs hGg P3 SS_w7 Iss_w7 SX_w7 SG_w7 Isg_w7
  generalize ((1 + L.length * 3 : Nat) : Int) = mL at *
  obtain ⟨u0, u1, u2, u3⟩ := Iss_w8.out
  obtain ⟨y0, y1, y2, y3⟩ := Isg_w8.out
  go_wp2_with fail
  refine (eqAO_any (.slice psg Z.ar.length csg) (.slice pss Z.ar.length css) Z _ _ _ SG_w8.out SS_w8.out (by omega)).mono ?_
  rintro e w9 ⟨rfl, hbw9⟩
  have Bw9 : Hid (Below w.heap.size w w9) := B8.out.trans (hbw9.mono B8.out.size)
  clear u0 u1 u2 u3
  clear y0 y1 y2 y3
  have SS_w9 : Hid (SliceE w9 w1.heap.size (.slice pss Z.ar.length css) Z.ar) := SS_w8.out.below hbw9
  clear SS_w8
  have Iss_w9 : Hid (InBox w9 w2.heap.size (.slice pss Z.ar.length css) Z) := Iss_w8.out.below hbw9
  clear Iss_w8
  have SG_w9 : Hid (SliceE w9 w3.heap.size (.slice psg Z.ar.length csg) Z.ar) := SG_w8.out.below hbw9
  clear SG_w8
  have Isg_w9 : Hid (InBox w9 w4.heap.size (.slice psg Z.ar.length csg) Z) := Isg_w8.out.below hbw9
  clear Isg_w8
  have z89 : w8.heap.size ≤ w9.heap.size := hbw9.size
  clear hbw9
  obtain ⟨y0, y1, y2, y3⟩ := Isg_w9.out
  go_wp2_with fail
  refine (markAO_call (.slice psg Z.ar.length csg) Z.va Z.co Z.ar w3.heap.size w9 SG_w9.out (by omega) (by omega)).mono ?_
  rintro e w10 ⟨rfl, s10, G, hG1, hG2, hG3, hg10⟩
  clear y0 y1 y2 y3
  have hGs : w2.heap.size ≠ G := by omega
  have hGg : w4.heap.size ≠ G := by
    by_cases h0 : 0 < Z.ar.length
    · obtain ⟨g', e', h1', h2'⟩ := P4.out h0
      have e2 := hG2 h0
      rw [e'] at e2
      have := Option.some.inj e2
      omega
    · have := hG3 h0; omega
  have SS_w10 : Hid (SliceE w10 w1.heap.size (.slice pss Z.ar.length css) Z.ar) := SliceE.keepG SS_w9.out hg10 (fun h => by obtain ⟨g, e, h1, h2⟩ := P2.out h; exact ⟨g, e, by omega⟩)
  have Iss_w10 : Hid (InBox w10 w2.heap.size (.slice pss Z.ar.length css) Z) := Iss_w9.out.grown hg10 hGs
  have Isg_w10 : Hid (InBox w10 w4.heap.size (.slice psg Z.ar.length csg) Z) := Isg_w9.out.grown hg10 hGg
  have S10 : Hid (SliceR w10 w3.heap.size 3 (.slice psg Z.ar.length csg) Z.ar.length (markEnC 1)) := s10
  have B10 : Hid (Below w.heap.size w w10) := Bw9.out.grown hg10 Bw9.out.size (fun j hj => by have := Option.some.inj hj; have := B2.out.size; omega)
  have KH : Hid (∀ W, Below w10.heap.size w10 W → Calls Tryd.prog 42 #[.agg #[.slice psg Z.ar.length csg, .string Z.va, .int .i64 Z.co], .int .i64 1] W fun e w' => e = .returned (.int .i64 ((1 + Z.ar.length * 3 : Nat) : Int)) ∧ Below W.heap.size W w') := fun W hb => heldAO_any (.slice psg Z.ar.length csg) Z.va Z.co Z.ar.length _ W (SliceR.below S10.out hb) (by omega)
  have hm1 : decide ((((1 + Z.ar.length * 3 : Nat) : Int)) < 0) = false := by rw [decide_eq_false_iff_not]; omega
  clear hg10 hG1 hG2 hG3 hGs hGg s10 S10 P2 P4 SS_w9 Iss_w9 SG_w9 Isg_w9
  generalize ((1 + Z.ar.length * 3 : Nat) : Int) = mZ at *
  obtain ⟨y0, y1, y2, y3⟩ := Isg_w10.out
  go_wp2_with fail
  refine (KH.out _ (Below.refl _ _)).mono ?_
  rintro e w11 ⟨rfl, hb11⟩
  clear y0 y1 y2 y3
  have B11 : Hid (Below w.heap.size w w11) := B10.out.trans (hb11.mono B10.out.size)
  have A11 : Hid (Below w10.heap.size w10 w11) := hb11
  have SS_w11 : Hid (SliceE w11 w1.heap.size (.slice pss Z.ar.length css) Z.ar) := SS_w10.out.below hb11
  clear SS_w10
  have Iss_w11 : Hid (InBox w11 w2.heap.size (.slice pss Z.ar.length css) Z) := Iss_w10.out.below hb11
  clear Iss_w10
  have Isg_w11 : Hid (InBox w11 w4.heap.size (.slice psg Z.ar.length csg) Z) := Isg_w10.out.below hb11
  clear Isg_w10
  clear hb11
  go_wp2_with fail
  refine (KT.out _ B11.out).mono ?_
  rintro e w12 ⟨v12, rfl, s12, hb12⟩
  have B12 : Hid (Below w.heap.size w w12) := B11.out.trans (hb12.mono B11.out.size)
  have A12 : Hid (Below w10.heap.size w10 w12) := A11.out.trans (hb12.mono A11.out.size)
  have SS_w12 : Hid (SliceE w12 w1.heap.size (.slice pss Z.ar.length css) Z.ar) := SS_w11.out.below hb12
  clear SS_w11
  have Iss_w12 : Hid (InBox w12 w2.heap.size (.slice pss Z.ar.length css) Z) := Iss_w11.out.below hb12
  clear Iss_w11
  have Isg_w12 : Hid (InBox w12 w4.heap.size (.slice psg Z.ar.length csg) Z) := Isg_w11.out.below hb12
  clear Isg_w11
  have S12 : Hid (SliceE w12 w11.heap.size v12 L) := s12
  clear hb12 s12
  go_wp2_with fail
  refine (KI.out _ _ _ B12.out S12.out).mono ?_
  rintro e w13 ⟨vh, rfl, ⟨sh, rfl, s13⟩, hb13⟩
  obtain ⟨psh, csh, hvsh⟩ : ∃ p c, sh = .slice p Z.ar.length c := by obtain ⟨⟨p, cap, e, -⟩, -⟩ := s13; exact ⟨p, cap, e⟩
  obtain ⟨W13, hW13⟩ : ∃ W, W = w13.alloc (.cells #[sh, .string Z.va, .int .i64 Z.co] 56) := ⟨_, rfl⟩
  have HW13 : Hid (W13 = w13.alloc (.cells #[sh, .string Z.va, .int .i64 Z.co] 56)) := hW13
  have AW13 : Below w13.heap.size w13 W13 := by rw [hW13]; exact (Below.refl _ _).alloc (Nat.le_refl _) _
  have Ish : Hid (InBox W13 w13.heap.size sh Z) := by show InBox _ _ _ _; rw [hW13]; exact inBox_made _ _ _ _
  have zW13 : w13.heap.size < W13.heap.size := by rw [hW13]; simp
  have A13 : Below w12.heap.size w12 W13 := hb13.trans (AW13.mono hb13.size)
  have B13 : Hid (Below w.heap.size w W13) := B12.out.trans (A13.mono B12.out.size)
  have C13 : Hid (Below w10.heap.size w10 W13) := A12.out.trans (A13.mono A12.out.size)
  have SS_W13 : Hid (SliceE W13 w1.heap.size (.slice pss Z.ar.length css) Z.ar) := SS_w12.out.below A13
  clear SS_w12
  have Iss_W13 : Hid (InBox W13 w2.heap.size (.slice pss Z.ar.length css) Z) := Iss_w12.out.below A13
  clear Iss_w12
  have Isg_W13 : Hid (InBox W13 w4.heap.size (.slice psg Z.ar.length csg) Z) := Isg_w12.out.below A13
  clear Isg_w12
  have SH : Hid (SliceE W13 w12.heap.size sh Z.ar) := s13.below AW13
  clear s13 hb13 AW13 hW13 A13 S12
  have hvh := hvsh
  clear hvsh
  subst hvh
  go_upto_region 31 with fail
  rw [← HW13.out]
  clear HW13
  obtain ⟨x0, x1, x2, x3⟩ := Ish.out
  obtain ⟨u0, u1, u2, u3⟩ := Iss_W13.out
  go_wp2_with fail
  refine (eqAO_any (.slice psh Z.ar.length csh) (.slice pss Z.ar.length css) Z _ _ _ SH.out SS_W13.out (by omega)).mono ?_
  rintro e w14 ⟨rfl, hbw14⟩
  have Bw14 : Hid (Below w.heap.size w w14) := B13.out.trans (hbw14.mono B13.out.size)
  clear u0 u1 u2 u3
  clear x0 x1 x2 x3
  have SS_w14 : Hid (SliceE w14 w1.heap.size (.slice pss Z.ar.length css) Z.ar) := SS_W13.out.below hbw14
  clear SS_W13
  have Iss_w14 : Hid (InBox w14 w2.heap.size (.slice pss Z.ar.length css) Z) := Iss_W13.out.below hbw14
  clear Iss_W13
  have Isg_w14 : Hid (InBox w14 w4.heap.size (.slice psg Z.ar.length csg) Z) := Isg_W13.out.below hbw14
  clear Isg_W13
  have Ish_w14 : Hid (InBox w14 w13.heap.size (.slice psh Z.ar.length csh) Z) := Ish.out.below hbw14
  clear Ish
  have C14 : Hid (Below w10.heap.size w10 w14) := C13.out.trans (hbw14.mono C13.out.size)
  clear hbw14
  obtain ⟨y0, y1, y2, y3⟩ := Isg_w14.out
  go_wp2_with fail
  refine (KH.out _ C14.out).mono ?_
  rintro e w15 ⟨rfl, hb15⟩
  go_wp2
  go_ret
  exact ⟨rfl, Bw14.out.trans (hb15.mono Bw14.out.size)⟩
end Go.Proofs.YtimmoclemcnhnaaDoor

/- What the listed variable errors.errorType gives a walk (its one cell), and a world that meets that condition. -/
namespace Go.Proofs.YtimmoclemcnhnaaDoor
open Go.ChangeShapes Go.WideShapes Go.RowKit

theorem Hd.own : ownKnob Tryd.prog.godebug = none := by kernel_rfl
theorem Hd.et : Tryd.prog.globalNamed "errors.errorType" = some 0 := by kernel_rfl
theorem Hd.rt : (Tryd.prog.cutTypes.find? (·.1 == "internal/reflectlite.rtype")).map (·.2) = some 215 := by kernel_rfl
theorem Hd.oneRow : ((List.range 273).filter fun t => Tryd.prog.rowNamed t [101, 114, 114, 111, 114]) = [113] := by kernel_rfl
theorem Hd.size : Tryd.prog.types.size = 273 := by kernel_rfl

theorem handle_of_laid {W : World} (h : laidMetH Tryd.prog [("errors.errorType", Rows.laid_errors_errorType)] W) : W.cell? ⟨0, 0, none⟩ = some (.iface 215 (.agg #[.pointer (some ⟨4, 113, none⟩)])) := by
  have h' : laidMet Tryd.prog [] W ∧ handlesMet Tryd.prog [("errors.errorType", Rows.laid_errors_errorType)] W := h
  obtain ⟨name, u, ty, e1, e2, e3, e4, e5⟩ := h'.2 _ (List.mem_singleton.2 rfl)
  have en : name = [101, 114, 114, 111, 114] := (Option.some.inj e1).symm
  subst en
  obtain rfl := Option.some.inj (Hd.rt.symm.trans e2)
  have hm : ty ∈ (List.range 273).filter fun t => Tryd.prog.rowNamed t [101, 114, 114, 111, 114] := List.mem_filter.2 ⟨List.mem_range.2 (by rw [← Hd.size]; exact e3), e4⟩
  rw [Hd.oneRow] at hm
  obtain rfl := List.mem_singleton.1 hm
  have hh : typeHandle Tryd.prog 113 = .pointer (some ⟨4, 113, none⟩) := by kernel_rfl
  rw [hh] at e5
  simpa using World.var?_cell Hd.et e5 0

/-- A world that meets the condition: the settled one, the variable's cell laid. -/
theorem laidWorld_met (os : Os) (args : Array Value) : laidMetH Tryd.prog [("errors.errorType", Rows.laid_errors_errorType)] (World.forCall ({ World.holding Tryd.prog os ⟨#[], #[], []⟩ with heap := (World.holding Tryd.prog os ⟨#[], #[], []⟩).heap.modify 0 fun | .cells _ t frozen => .cells #[.iface 215 (.agg #[.pointer (some ⟨4, 113, none⟩)])] t frozen | o => o }) (fun _ _ => 0) ⟨#[], args, []⟩).memory :=
  laidMetH_of_parts (laidMet_nil _ _) (by kernel_rfl)
end Go.Proofs.YtimmoclemcnhnaaDoor
