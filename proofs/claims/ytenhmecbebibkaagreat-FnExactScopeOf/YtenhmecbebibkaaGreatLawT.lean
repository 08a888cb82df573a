/-
  Walks: a program that came in, copied, by the laws' own helpers: numbers, texts, nodes.
-/
import Derived.Test.YtenhmecbebibkaaGreatRowQ
import Derived.Laws.OwnMore
import Derived.Handy
namespace Go.Proofs.YtenhmecbebibkaaGreat
open Go.RowKit

def IntC (_base : Nat) (_w : World) (cs : List Value) (x : Int) : Prop := cs = [.int .i64 x]
def StrC (_base : Nat) (_w : World) (cs : List Value) (x : ByteArray) : Prop := cs = [.string x]
instance : Told IntC := ⟨fun h _ => h, fun h _ => h⟩
instance : Told StrC := ⟨fun h _ => h, fun h _ => h⟩
theorem ObjsIn.ints {base : Nat} {w : World} {v : Value} {xs : List Int} (h : ObjsIn IntC 1 base w v xs) : IntsIn base w v xs := by
  obtain ⟨css, ⟨ao, c, rfl, h0, hc⟩, hl, hr⟩ := h
  refine ⟨ao, c, by rw [hl, List.length_map], by rw [List.length_map]; omega, fun j u hj => ?_⟩
  rw [List.getElem?_map] at hj
  obtain ⟨x, hx, rfl⟩ := Option.map_eq_some_iff.1 hj
  have hj2 := (List.getElem?_eq_some_iff.1 hx).1
  have hj3 : j < css.length := by omega
  obtain ⟨_, a, rfl, h1, h2, h3⟩ := hc j css[j] (List.getElem?_eq_getElem hj3)
  have e := hr j css[j] x (List.getElem?_eq_getElem hj3) hx
  rw [e] at h3
  exact ⟨a, rfl, h1, h2, by have := h3 0 _ rfl; simpa using this⟩
theorem ObjsIn.strs {base : Nat} {w : World} {v : Value} {xs : List ByteArray} (h : ObjsIn StrC 1 base w v xs) : StrsIn base w v xs := by
  obtain ⟨css, ⟨ao, c, rfl, h0, hc⟩, hl, hr⟩ := h
  refine ⟨ao, c, by rw [hl, List.length_map], by rw [List.length_map]; omega, fun j u hj => ?_⟩
  rw [List.getElem?_map] at hj
  obtain ⟨x, hx, rfl⟩ := Option.map_eq_some_iff.1 hj
  have hj2 := (List.getElem?_eq_some_iff.1 hx).1
  have hj3 : j < css.length := by omega
  obtain ⟨_, a, rfl, h1, h2, h3⟩ := hc j css[j] (List.getElem?_eq_getElem hj3)
  have e := hr j css[j] x (List.getElem?_eq_getElem hj3) hx
  rw [e] at h3
  exact ⟨a, rfl, h1, h2, by have := h3 0 _ rfl; simpa using this⟩

def FillR {α : Type} (R : Nat → World → List Value → α → Prop) (s : Nat) (e : TypeId) (w : World) (xs : List α) (iv : Value) (wr : World) : Prop :=
  ∃ k : Nat, k ≤ xs.length ∧ iv = .int .i64 k ∧ Hid (Filled R s e w xs k wr)

set_option maxRecDepth 100000 in
set_option maxHeartbeats 1000000 in
theorem toIntS_any (v : Value) (xs : List Int) (w : World) (h : IntsAt w v xs) (hlen : xs.length ≤ 1048576) :
    Calls Tryz.prog 68 #[v] w fun e w' => ∃ v', e = .returned v' ∧ IntsIn w.heap.size w' v' xs ∧ Below w.heap.size w w' := by
  obtain ⟨i0, hi, hz0, hz1, hz2⟩ := info_parts (Tryz.infoInt)
  obtain ⟨wm, hmk, hown, hgr⟩ := run_make_full (P := Tryz.prog) w w.heap.size 50 3 i0 (.int .i64 0) 1 Tryz.underlying50 hi hz0 hz1 .i64 .i64 xs.length (by rw [hz2]; omega) (by unfold maxLen; omega) (Nat.le_refl _)
  have HS : Hid (Filled IntC 1 3 w xs 0 wm) := Filled.start IntC xs [.int .i64 0] (by decide) hown hgr
  have HC := hide h
  obtain ⟨ao, c, rfl, _⟩ := h
  clear hown hgr hi hz0 hz1 hz2
  obtain ⟨n, en⟩ : ∃ n, xs.length = n := ⟨_, rfl⟩
  have EN := hide en
  rw [en] at hmk hlen HC ⊢
  clear en
  go_enter Tryz.func68, Tryz.ntmps68
  go_wp2
  go_loopw [4] (FillR IntC 1 3 w xs) (fun iv _ => n - (intOf iv).toNat)
  case atStart => exact ⟨0, Nat.zero_le _, rfl, HS.out⟩
  case round =>
    obtain ⟨k, hk, rfl, HF⟩ := hrel
    rw [EN.out] at hk
    by_cases hlt : k < n
    · have hlt' : (k : Int) < (n : Int) := by omega
      have hi0 : (0 : Int) ≤ (k : Int) := by omega
      have hkx : k < xs.length := by rw [EN.out]; exact hlt
      obtain ⟨ao', c', e1, hc1⟩ := HC.out.stays HF.out.below
      injection e1 with e2 e3 e4
      subst e2
      obtain ⟨a, rfl, _, hx⟩ := hc1 k hkx
      obtain ⟨⟨u0, y0⟩, z0⟩ := HF.out.there hkx 0 (by omega)
      have HN := hide (HF.out.next hkx (y := [.int .i64 xs[k]]) rfl rfl)
      obtain ⟨x, ex⟩ : ∃ x, xs[k] = x := ⟨_, rfl⟩
      rw [ex] at hx HN
      rw [Nat.mul_one, Nat.add_zero] at y0 z0
      clear ex hc1 e3 e4
      go_wp2
      go_roundw
      case rel => exact ⟨k + 1, by rw [EN.out]; omega, by go_num, by have := HN.out; rwa [Nat.mul_one] at this⟩
      case measure => simp [intOf]; omega
    · have hlt' : ¬ (k : Int) < (n : Int) := by omega
      go_wp2
      go_ret
      exact ⟨_, rfl, by
        have := (HF.out.done (by rw [EN.out]; omega)).ints
        rwa [EN.out] at this, HF.out.below⟩
theorem Tryz.infoStr : (Tryz.prog.info? 9).map (fun i => (i.zero, i.size, i.bytes)) = some (some (.string ⟨#[]⟩), 1, 16) := by kernel_rfl
set_option maxRecDepth 100000 in
set_option maxHeartbeats 1000000 in
theorem toStringS_any (v : Value) (xs : List ByteArray) (w : World) (h : StrsAt w v xs) (hlen : xs.length ≤ 1048576) :
    Calls Tryz.prog 69 #[v] w fun e w' => ∃ v', e = .returned v' ∧ StrsIn w.heap.size w' v' xs ∧ Below w.heap.size w w' := by
  obtain ⟨i0, hi, hz0, hz1, hz2⟩ := info_parts (Tryz.infoStr)
  obtain ⟨wm, hmk, hown, hgr⟩ := run_make_full (P := Tryz.prog) w w.heap.size 51 9 i0 (.string ⟨#[]⟩) 1 Tryz.underlying51 hi hz0 hz1 .i64 .i64 xs.length (by rw [hz2]; omega) (by unfold maxLen; omega) (Nat.le_refl _)
  have HS : Hid (Filled StrC 1 9 w xs 0 wm) := Filled.start StrC xs [.string ⟨#[]⟩] (by decide) hown hgr
  have HC := hide h
  obtain ⟨ao, c, rfl, _⟩ := h
  clear hown hgr hi hz0 hz1 hz2
  obtain ⟨n, en⟩ : ∃ n, xs.length = n := ⟨_, rfl⟩
  have EN := hide en
  rw [en] at hmk hlen HC ⊢
  clear en
  go_enter Tryz.func69, Tryz.ntmps69
  go_wp2
  go_loopw [4] (FillR StrC 1 9 w xs) (fun iv _ => n - (intOf iv).toNat)
  case atStart => exact ⟨0, Nat.zero_le _, rfl, HS.out⟩
  case round =>
    obtain ⟨k, hk, rfl, HF⟩ := hrel
    rw [EN.out] at hk
    by_cases hlt : k < n
    · have hlt' : (k : Int) < (n : Int) := by omega
      have hi0 : (0 : Int) ≤ (k : Int) := by omega
      have hkx : k < xs.length := by rw [EN.out]; exact hlt
      obtain ⟨ao', c', e1, hc1⟩ := HC.out.stays HF.out.below
      injection e1 with e2 e3 e4
      subst e2
      obtain ⟨a, rfl, _, hx⟩ := hc1 k hkx
      obtain ⟨⟨u0, y0⟩, z0⟩ := HF.out.there hkx 0 (by omega)
      have HN := hide (HF.out.next hkx (y := [.string xs[k]]) rfl rfl)
      obtain ⟨x, ex⟩ : ∃ x, xs[k] = x := ⟨_, rfl⟩
      rw [ex] at hx HN
      rw [Nat.mul_one, Nat.add_zero] at y0 z0
      clear ex hc1 e3 e4
      go_wp2
      go_roundw
      case rel => exact ⟨k + 1, by rw [EN.out]; omega, by go_num, by have := HN.out; rwa [Nat.mul_one] at this⟩
      case measure => simp [intOf]; omega
    · have hlt' : ¬ (k : Int) < (n : Int) := by omega
      go_wp2
      go_ret
      exact ⟨_, rfl, by
        have := (HF.out.done (by rw [EN.out]; omega)).strs
        rwa [EN.out] at this, HF.out.below⟩

set_option maxRecDepth 100000 in
set_option maxHeartbeats 1000000 in
theorem toNode_any (x : Nd) (kv : Value) (w : World) (hK : IntsAt w kv x.kids) (hl : x.kids.length ≤ 1048576) :
    Calls Tryz.prog 42 #[.agg #[.int .i64 x.kind, .int .i64 x.num, .string x.name, .string x.more, .string x.into, kv]] w fun e w' => ∃ o n c, e = .returned (.agg #[.int .i64 x.kind, .int .i64 x.num, .string x.name, .string x.more, .string x.into, .slice o n c]) ∧ NodeC w.heap.size w' [.int .i64 x.kind, .int .i64 x.num, .string x.name, .string x.more, .string x.into, .slice o n c] x ∧ Below w.heap.size w w' := by
  have C := fun w h => hide (toIntS_any kv x.kids w h hl)
  have HB0 : Hid (Below w.heap.size w (((w.alloc (.cells #[.int .i64 x.kind, .int .i64 x.num, .string x.name, .string x.more, .string x.into, kv] 70)).alloc (.cells #[.int .i64 0, .int .i64 0, .string ⟨#[]⟩, .string ⟨#[]⟩, .string ⟨#[]⟩, .slice none 0 0] 79)).alloc (.cells #[.int .i64 x.kind, .int .i64 x.num, .string x.name, .string x.more, .string x.into, .slice none 0 0] 79))) := by show Below _ _ _; go_grown
  have HK : Hid (IntsAt (((w.alloc (.cells #[.int .i64 x.kind, .int .i64 x.num, .string x.name, .string x.more, .string x.into, kv] 70)).alloc (.cells #[.int .i64 0, .int .i64 0, .string ⟨#[]⟩, .string ⟨#[]⟩, .string ⟨#[]⟩, .slice none 0 0] 79)).alloc (.cells #[.int .i64 x.kind, .int .i64 x.num, .string x.name, .string x.more, .string x.into, .slice none 0 0] 79)) kv x.kids) := hK.stays HB0.out
  have HQ1 : Hid (Box (((w.alloc (.cells #[.int .i64 x.kind, .int .i64 x.num, .string x.name, .string x.more, .string x.into, kv] 70)).alloc (.cells #[.int .i64 0, .int .i64 0, .string ⟨#[]⟩, .string ⟨#[]⟩, .string ⟨#[]⟩, .slice none 0 0] 79)).alloc (.cells #[.int .i64 x.kind, .int .i64 x.num, .string x.name, .string x.more, .string x.into, .slice none 0 0] 79)) (w.heap.size + 1) #[.int .i64 0, .int .i64 0, .string ⟨#[]⟩, .string ⟨#[]⟩, .string ⟨#[]⟩, .slice none 0 0] 79) := (Box.madeAt (by simp) _ _).stays ((Below.refl _ _).alloc (Nat.le_refl _) _)
  have HQ2 : Hid (Box (((w.alloc (.cells #[.int .i64 x.kind, .int .i64 x.num, .string x.name, .string x.more, .string x.into, kv] 70)).alloc (.cells #[.int .i64 0, .int .i64 0, .string ⟨#[]⟩, .string ⟨#[]⟩, .string ⟨#[]⟩, .slice none 0 0] 79)).alloc (.cells #[.int .i64 x.kind, .int .i64 x.num, .string x.name, .string x.more, .string x.into, .slice none 0 0] 79)) (w.heap.size + 1 + 1) #[.int .i64 x.kind, .int .i64 x.num, .string x.name, .string x.more, .string x.into, .slice none 0 0] 79) := Box.madeAt (by simp) _ _
  have HZ : Hid ((((w.alloc (.cells #[.int .i64 x.kind, .int .i64 x.num, .string x.name, .string x.more, .string x.into, kv] 70)).alloc (.cells #[.int .i64 0, .int .i64 0, .string ⟨#[]⟩, .string ⟨#[]⟩, .string ⟨#[]⟩, .slice none 0 0] 79)).alloc (.cells #[.int .i64 x.kind, .int .i64 x.num, .string x.name, .string x.more, .string x.into, .slice none 0 0] 79)).heap.size = w.heap.size + 3) := by show _ = _; simp
  obtain ⟨ao, c, rfl, _⟩ := hK
  clear hl
  go_enter Tryz.func42, Tryz.ntmps42
  go_wp2_with (go_at_call 68; refine (unhide (C _ HK.out)).mono ?_; rintro e w2 ⟨v2, rfl, hv2, hb2⟩; have HB := hide (HB0.out.trans (hb2.mono HB0.out.size)); have HW : Hid (IntsIn (w.heap.size + 3) w2 v2 x.kids) := hv2.mono (Nat.le_of_eq HZ.out.symm); obtain ⟨o2, c2, rfl, hr2, hc2⟩ := hv2; have q1 := HQ1.out.stays hb2; have q2 := HQ2.out.stays hb2; have Q1 := hide q1; have Q2 := hide q2; have f0 := Lib.cell_of_heap q1 0; have f1 := Lib.cell_of_heap q1 1; have f2 := Lib.cell_of_heap q1 2; have f3 := Lib.cell_of_heap q1 3; have f4 := Lib.cell_of_heap q1 4; have f5 := Lib.cell_of_heap q1 5; have z0 := Lib.frozen_of_heap q1 0; have z1 := Lib.frozen_of_heap q1 1; have z2 := Lib.frozen_of_heap q1 2; have z3 := Lib.frozen_of_heap q1 3; have z4 := Lib.frozen_of_heap q1 4; have z5 := Lib.frozen_of_heap q1 5; have g0 := Lib.cell_of_heap q2 0; have g1 := Lib.cell_of_heap q2 1; have g2 := Lib.cell_of_heap q2 2; have g3 := Lib.cell_of_heap q2 3; have g4 := Lib.cell_of_heap q2 4; have g5 := Lib.cell_of_heap q2 5; have y5 := Lib.frozen_of_heap q2 5; simp at f0 f1 f2 f3 f4 f5 g0 g1 g2 g3 g4 g5; clear hb2 hc2 hr2 q1 q2)
  refine box_ret (g := w.heap.size + 1) (t := 79) (cs := #[.int .i64 x.kind, .int .i64 x.num, .string x.name, .string x.more, .string x.into, .slice o2 x.kids.length c2]) rfl rfl ?_ _ Tryz.underlying79 rfl (by kernel_rfl) rfl ?_
  · simpa using ((((((Q1.out.other ⟨w.heap.size + 1 + 1, 5, none⟩ (.slice o2 x.kids.length c2) (by show w.heap.size + 1 ≠ w.heap.size + 1 + 1; omega)).set 0 _).set 1 _).set 2 _).set 3 _).set 4 _).set 5 _
  · refine ⟨_, _, _, rfl, ⟨_, rfl, ?_⟩, ?_⟩
    · refine CellsIn.mono (base := w.heap.size + 3) ?_ (by omega)
      iterate 7 refine CellsIn.kept ?_ (KeptFrom.setCell (by omega) _ _ _)
      have := HW.out
      rwa [List.length_map] at this
    · iterate 7 refine Below.setCell ?_ (by dsimp only; omega) _
      exact HB.out
end Go.Proofs.YtenhmecbebibkaaGreat

namespace Go.Proofs.YtenhmecbebibkaaGreat
open Go.RowKit

def blockQ (x : Int) : Bool := decide (x = 20)
def BlocksR (W1 : World) (l : List Int) (n m : Nat) (iv : Value) (wr : World) : Prop :=
  ∃ i : Nat, n ≤ i ∧ i ≤ m ∧ iv = .int .i64 i ∧ Hid (Below W1.heap.size W1 wr) ∧ Hid (∀ j x, n ≤ j → j < i → l[j]? = some x → blockQ x = true)

theorem NdsAt.node {w : World} {nv : Value} {ns : List Nd} (h : NdsAt w nv ns) (k : Nat) (hk : k < ns.length) :
    ∃ a c p kv, nv = .slice (some a) ns.length c ∧ a.add (k * 6) = p ∧ p.block < w.heap.size ∧ NdCell w p ns[k] kv := by
  obtain ⟨ao, c, rfl, hc⟩ := h
  obtain ⟨a, kv, rfl, ha, hx⟩ := hc k hk
  exact ⟨a, c, a.add (k * 6), kv, rfl, rfl, by rw [block_add]; exact ha, hx⟩

set_option maxHeartbeats 1000000 in
theorem l05Blocks_any (nv mv pv : Value) (ns : List Nd) (k n : Nat) (w : World) (hN : NdsAt w nv ns) (hk : k < ns.length) (hn : n ≤ ns[k].kids.length) (hl : ns.length ≤ 1048576) (hkl : ns[k].kids.length ≤ 1048576) :
    Calls Tryz.prog 106 #[.agg #[nv, mv, pv], .int .i64 (k : Int), .int .i64 (n : Int)] w fun e w' => e = .returned (.bool (((kinds ns k).drop n).all blockQ)) ∧ Below w.heap.size w w' := by
  have hb1 : Below w.heap.size w (w.alloc (.cells #[nv, mv, pv] 33)) := (Below.refl _ _).alloc (Nat.le_refl _) _
  have HN := hide (hN.stays hb1)
  have HX := hide (Boxed.made w nv mv pv 33)
  have HB := hide hb1
  clear hN hb1
  go_enter Tryz.func106, Tryz.ntmps106
  go_wp2
  obtain ⟨W1, hW⟩ : ∃ W1, w.alloc (.cells #[nv, mv, pv] 33) = W1 := ⟨_, rfl⟩
  rw [hW] at HN HX HB ⊢
  clear hW
  have hi0 : (0 : Int) ≤ (k : Int) := by omega
  have hi1 : (k : Int) < (ns.length : Int) := by omega
  obtain ⟨m, hm⟩ : ∃ m, ns[k].kids.length = m := ⟨_, rfl⟩
  have HM := hide hm
  rw [hm] at hn hkl
  go_loopw [7] (BlocksR W1 (kinds ns k) n m) (fun iv _ => m - (intOf iv).toNat)
  case atStart => exact ⟨n, by omega, by omega, rfl, Below.refl _ _, fun j x h1 h2 => absurd h2 (by omega)⟩
  case round =>
    obtain ⟨i, hni, hi, rfl, HB2, HA⟩ := hrel
    obtain ⟨c0, c1, c2, _⟩ := HX.out.stays HB2.out
    have HN2 := hide (HN.out.stays HB2.out)
    obtain ⟨a, c, p, kv, rfl, hpa, hpb, hcell⟩ := HN2.out.node k hk
    have d5 := hcell.c5
    obtain ⟨bo, cb, rfl, _⟩ := hcell.kids
    rw [hm] at d5
    clear hcell hm
    by_cases hlt : i < m
    · have hlt' : (i : Int) < (m : Int) := by omega
      have hik : i < ns[k].kids.length := by rw [HM.out]; exact hlt
      have C1 := fun w (h : NdsAt w (.slice (some a) ns.length c) ns) => hide (l05Kid_any (.slice (some a) ns.length c) mv pv ns k i w h hk hik hl)
      have hx := hide (kinds_at? hk hik)
      obtain ⟨x, ex⟩ : ∃ x, x = kidKind ns k ns[k].kids[i] := ⟨_, rfl⟩
      rw [← ex] at hx
      simp only [← ex] at C1
      clear ex
      by_cases hv : x = 20
      · have HV : Hid (blockQ x = true) := by show _ = _; simp [blockQ, hv]
        go_wp2_with (go_at_call 107; refine (unhide (C1 _ HN2.out)).mono ?_; rintro e w2 ⟨rfl, hb2⟩; have HB3 := hide hb2; clear hb2)
        go_roundw
        case rel => exact ⟨i + 1, by omega, by omega, by go_num, HB2.out.trans (HB3.out.mono HB2.out.size), fun j y h1 hj hy => by
          rcases Nat.lt_succ_iff_lt_or_eq.1 hj with hj | hj
          · exact HA.out j y h1 hj hy
          · subst hj; rw [hx.out] at hy; cases hy; exact HV.out⟩
        case measure => simp [intOf]; omega
      · have HV : Hid (blockQ x = false) := by show _ = _; simp [blockQ, hv]
        go_wp2_with (go_at_call 107; refine (unhide (C1 _ HN2.out)).mono ?_; rintro e w2 ⟨rfl, hb2⟩; have HB3 := hide hb2; clear hb2)
        go_ret
        exact ⟨by rw [all_drop_no hx.out hni HV.out]; rfl, HB.out.trans ((HB2.out.trans (HB3.out.mono HB2.out.size)).mono HB.out.size)⟩
    · have hlt' : ¬ (i : Int) < (m : Int) := by omega
      go_wp2
      go_ret
      exact ⟨by rw [all_drop_yes (fun j x h1 hx => HA.out j x h1 (by have := (List.getElem?_eq_some_iff.1 hx).1; rw [kinds_len hk, HM.out] at this; omega) hx)]; rfl, HB.out.trans (HB2.out.mono HB.out.size)⟩

/-- Are a node's kids what its kind wants? -/
def kidsB (kd : Int) (l : List Int) : Bool :=
  if kd = 1 ∨ kd = 2 ∨ kd = 16 ∨ kd = 17 ∨ kd = 18 ∨ kd = 19 then decide (l.length = 0)
  else if kd = 3 then decide (l.length = 2) && (l.take 2).all valueQ
  else if kd = 4 ∨ kd = 5 ∨ kd = 11 ∨ kd = 14 ∨ kd = 15 then decide (l.length = 1) && (l.take 1).all valueQ
  else if kd = 12 then decide (l.length = 2 ∨ l.length = 3) && (l.take 1).all valueQ && (l.drop 1).all blockQ
  else if kd = 13 then decide (l.length = 2) && (l.take 1).all valueQ && (l.drop 1).all blockQ
  else l.all stmtQ && inZ 1 12 l.length
end Go.Proofs.YtenhmecbebibkaaGreat

namespace Go.Proofs.YtenhmecbebibkaaGreat
open Go.RowKit

theorem Tryz.infoNode : (Tryz.prog.info? 79).map (fun i => (i.zero, i.size, i.bytes)) = some (some (.agg #[.int .i64 0, .int .i64 0, .string ⟨#[]⟩, .string ⟨#[]⟩, .string ⟨#[]⟩, .slice none 0 0]), 6, 88) := by kernel_rfl

set_option maxRecDepth 100000 in
set_option maxHeartbeats 2000000 in
theorem toNodeS_any (v : Value) (xs : List Nd) (w : World) (h : NdsAt w v xs) (hlen : xs.length ≤ 1048576) (hin : ∀ x ∈ xs, x.kids.length ≤ 1048576) :
    Calls Tryz.prog 16 #[v] w fun e w' => ∃ v', e = .returned v' ∧ NdsIn w.heap.size w' v' xs ∧ Below w.heap.size w w' := by
  obtain ⟨i0, hi, hz0, hz1, hz2⟩ := info_parts (Tryz.infoNode)
  obtain ⟨wm, hmk, hown, hgr⟩ := run_make_full (P := Tryz.prog) w w.heap.size 29 79 i0 _ 6 Tryz.underlying29 hi hz0 hz1 .i64 .i64 xs.length (by rw [hz2]; omega) (by unfold maxLen; omega) (Nat.le_refl _)
  have HS : Hid (Filled NodeC 6 79 w xs 0 wm) := Filled.start NodeC xs [.int .i64 0, .int .i64 0, .string ⟨#[]⟩, .string ⟨#[]⟩, .string ⟨#[]⟩, .slice none 0 0] (by decide) hown hgr
  have HC := hide h
  have HI := hide hin
  obtain ⟨ao, c, rfl, _⟩ := h
  clear hown hgr hi hz0 hz1 hz2 hin
  obtain ⟨n, en⟩ : ∃ n, xs.length = n := ⟨_, rfl⟩
  have EN := hide en
  rw [en] at hmk hlen HC ⊢
  clear en
  go_enter Tryz.func16, Tryz.ntmps16
  go_wp2
  go_loopw [4] (FillR NodeC 6 79 w xs) (fun iv _ => n - (intOf iv).toNat)
  case atStart => exact ⟨0, Nat.zero_le _, rfl, HS.out⟩
  case round =>
    obtain ⟨k, hk, rfl, HF⟩ := hrel
    rw [EN.out] at hk
    by_cases hlt : k < n
    · have hlt' : (k : Int) < (n : Int) := by omega
      have hi0 : (0 : Int) ≤ (k : Int) := by omega
      have hkx : k < xs.length := by rw [EN.out]; exact hlt
      obtain ⟨a', c', p, kv, e5, hpa, hpb, hnode⟩ := (HC.out.stays HF.out.below).node k hkx
      injection e5 with e6 e7 e8
      subst e6
      have hkl := HI.out _ (List.getElem_mem hkx)
      obtain ⟨d0, d1, d2, d3, d4, d5, hkids⟩ := hnode
      have C := hide (toNode_any xs[k] kv wr hkids hkl)
      have HX : Hid (∀ y wz, y.length = 6 → NodeC (w.heap.size + 1) wz y xs[k] → Filled NodeC 6 79 w xs k wz → Filled NodeC 6 79 w xs (k + 1) (wz.setCells w.heap.size (k * 6) y)) := fun y wz hy hR hf => hf.next hkx hy hR
      have HT : Hid (∀ wz, Filled NodeC 6 79 w xs k wz → ∀ j, j < 6 → (∃ u, wz.cell? ⟨w.heap.size, k * 6 + j, none⟩ = some u) ∧ wz.frozen? ⟨w.heap.size, k * 6 + j, none⟩ = false) := fun wz hf j hj => hf.there hkx j hj
      obtain ⟨ko, kc, rfl, _⟩ := hkids
      obtain ⟨x, ex⟩ : ∃ x, xs[k] = x := ⟨_, rfl⟩
      rw [ex] at d0 d1 d2 d3 d4 d5 C HX
      clear ex e7 e8 hkl
      go_wp2_with (go_at_call 42; refine (unhide C).mono ?_; rintro e w1 ⟨o2, n2, c2, rfl, hv2, hb2⟩; have HF1 := hide (HF.out.stays hb2); have HV : Hid (NodeC (w.heap.size + 1) w1 [.int .i64 x.kind, .int .i64 x.num, .string x.name, .string x.more, .string x.into, .slice o2 n2 c2] x) := Told.mono hv2 HF.out.lt; obtain ⟨⟨u0, y0⟩, z0⟩ := HT.out _ HF1.out 0 (by decide); obtain ⟨⟨u1, y1⟩, z1⟩ := HT.out _ HF1.out 1 (by decide); obtain ⟨⟨u2, y2⟩, z2⟩ := HT.out _ HF1.out 2 (by decide); obtain ⟨⟨u3, y3⟩, z3⟩ := HT.out _ HF1.out 3 (by decide); obtain ⟨⟨u4, y4⟩, z4⟩ := HT.out _ HF1.out 4 (by decide); obtain ⟨⟨u5, y5⟩, z5⟩ := HT.out _ HF1.out 5 (by decide); rw [Nat.add_zero] at y0 z0; clear hb2 hv2)
      have HR := hide (HX.out _ _ rfl HV.out HF1.out)
      go_roundw
      case rel => exact ⟨k + 1, by rw [EN.out]; omega, by go_num, HR.out⟩
      case measure => simp [intOf]; omega
    · have hlt' : ¬ (k : Int) < (n : Int) := by omega
      go_wp2
      go_ret
      exact ⟨_, rfl, by
        have := HF.out.done (by rw [EN.out]; omega)
        rwa [EN.out] at this, HF.out.below⟩
end Go.Proofs.YtenhmecbebibkaaGreat
