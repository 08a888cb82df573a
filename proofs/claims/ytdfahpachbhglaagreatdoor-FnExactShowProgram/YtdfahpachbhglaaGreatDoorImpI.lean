/-
  Walks: whether nodes at places may stand as something, by the program.
-/
import Derived.Test.YtdfahpachbhglaaGreatDoorImpH
import Derived.Test.YtdfahpachbhglaaGreatDoorChecked
import Derived.Test.YtdfahpachbhglaaGreatDoorAidCard
import Derived.Maps.OwnSet
import Derived.BigQuiet
import Derived.WalkSmall
import Derived.Lib.DecodeN
import Derived.Laws.RangeAny
namespace Go.Proofs.YtdfahpachbhglaaGreatDoor
open Go.RowKit

/-- May the node at a place stand as this? -/
def standQ (ns : List Nd) (r : Int) (x : Int) : Bool := inZ 0 ((ns.length : Int) - 1) x && decide (roleOf (ns.getD x.toNat default).kind = r)

def StandR (W : World) (xs : List Int) (q : Int → Bool) (iv : Value) (wr : World) : Prop :=
  ∃ i : Nat, i ≤ xs.length ∧ iv = .int .i64 i ∧ Hid (Below W.heap.size W wr) ∧ Hid (∀ j x, j < i → xs[j]? = some x → q x = true)

set_option maxRecDepth 100000 in
set_option maxHeartbeats 2000000 in
theorem stand_any (nv mv pv v : Value) (ns : List Nd) (r : Int) (xs : List Int) (w : World) (hN : NdsAt w nv ns) (hv : IntsAt w v xs) (_hl : ns.length ≤ 1048576) (hxl : xs.length ≤ 1048576) :
    Calls Tryz.prog 62 #[.agg #[nv, mv, pv], .int .i64 r, v] w fun e w' => e = .returned (.bool (xs.all (standQ ns r))) ∧ Below w.heap.size w w' := by
  have hb1 : Below w.heap.size w (w.alloc (.cells #[nv, mv, pv] 34)) := (Below.refl _ _).alloc (Nat.le_refl _) _
  have HN := hide (hN.stays hb1)
  have HV := hide (hv.stays hb1)
  have HX := hide (Boxed.made w nv mv pv 34)
  have HB := hide hb1
  clear hb1
  obtain ⟨ao, c, rfl, _⟩ := hN
  obtain ⟨bo, d, rfl, _⟩ := hv
  obtain ⟨m, em⟩ : ∃ m, xs.length = m := ⟨_, rfl⟩
  have EM := hide em
  rw [em] at HV hxl ⊢
  go_enter Tryz.func62, Tryz.ntmps62
  go_wp2
  obtain ⟨W1, hW⟩ : ∃ W1, w.alloc (.cells #[.slice ao ns.length c, mv, pv] 34) = W1 := ⟨_, rfl⟩
  rw [hW] at HN HV HX HB ⊢
  clear hW em
  go_loopw [11] (StandR W1 xs (standQ ns r)) (fun iv _ => m - (intOf iv).toNat)
  case atStart => exact ⟨0, by omega, rfl, Below.refl _ _, fun j x hj => absurd hj (Nat.not_lt_zero j)⟩
  case round =>
    obtain ⟨i, hi, rfl, HB2, HA⟩ := hrel
    rw [EM.out] at hi
    obtain ⟨c0, c1, c2, _⟩ := HX.out.stays HB2.out
    have HN2 := hide (HN.out.stays HB2.out)
    by_cases hlt : i < m
    · have hlt' : (i : Int) < (m : Int) := by omega
      have hi0 : (0 : Int) ≤ (i : Int) := by omega
      have hix : i < xs.length := by rw [EM.out]; exact hlt
      obtain ⟨bo', d', e1, hc1⟩ := HV.out.stays HB2.out
      injection e1 with e2 e3 e4
      subst e2
      obtain ⟨b, rfl, _, hx⟩ := hc1 i hix
      have EX : Hid (xs[i]? = some xs[i]) := List.getElem?_eq_getElem hix
      obtain ⟨x, ex⟩ : ∃ x, xs[i] = x := ⟨_, rfl⟩
      rw [ex] at hx EX
      clear ex hc1 e3 e4
      have CH := fun w h => hide (has_any (.slice ao ns.length c) mv pv ns x w h)
      cases hin : inZ 0 ((ns.length : Int) - 1) x with
      | false =>
        have HF : Hid (xs.all (standQ ns r) = false) := all_no EX.out (by simp [standQ, hin])
        rw [hin] at CH
        clear hin
        (go_wp2_with (go_at_call 79; refine (unhide (CH _ HN2.out)).mono ?_; rintro e w2 ⟨rfl, hb2⟩; have HB3 := hide (HB2.out.trans (hb2.mono HB2.out.size)); clear hb2))
        go_ret
        exact ⟨by rw [HF.out]; rfl, HB.out.trans (HB3.out.mono HB.out.size)⟩
      | true =>
        obtain ⟨hx0, hx1⟩ := inZ_yes.1 hin
        obtain ⟨y, hy⟩ : ∃ y : Nat, x = (y : Int) := ⟨x.toNat, by omega⟩
        subst hy
        have hyn : y < ns.length := by omega
        have hy1 : (y : Int) < (ns.length : Int) := by omega
        have ES : Hid (standQ ns r (y : Int) = decide (roleOf ns[y].kind = r)) := by
          show _ = _
          rw [standQ, hin, Int.toNat_natCast, getD_at hyn]
          rfl
        rw [hin] at CH
        clear hin
        by_cases hr : roleOf ns[y].kind = r
        · have HT : Hid (standQ ns r (y : Int) = true) := by show _ = _; rw [ES.out]; exact decide_eq_true hr
          (go_wp2_with (first
    | (go_at_call 79; refine (unhide (CH _ HN2.out)).mono ?_; rintro e w2 ⟨rfl, hb2⟩; have HB3 := hide (HB2.out.trans (hb2.mono HB2.out.size)); have HN3 := hide (HN2.out.stays hb2); obtain ⟨f0, f1, f2, _⟩ := HX.out.stays HB3.out; obtain ⟨a', c', p, kv, e5, hpa, hpb, hnode⟩ := HN3.out.node y hyn; injection e5 with e6 e7 e8; subst e6; have d0 := hnode.c0; have d1 := hnode.c1; have d2 := hnode.c2; have d3 := hnode.c3; have d4 := hnode.c4; have d5 := hnode.c5; have HKI := hide hnode.kids; obtain ⟨ko, kc, rfl, _⟩ := hnode.kids; clear e7 e8 hnode hb2)
    | (go_at_call 87; refine Calls.mono (stands_any _ _ _ _ _ _ _ _ HKI.out) ?_; rintro e w4 ⟨rfl, hb4⟩; have HB3 := hide (HB3.out.trans (hb4.mono HB3.out.size)); clear hb4)))
          go_roundw
          case rel => exact ⟨i + 1, by rw [EM.out]; omega, by go_num, HB3.out, fun j z hj hz => by
            rcases Nat.lt_succ_iff_lt_or_eq.1 hj with h | h
            · exact HA.out j z h hz
            · subst h; rw [EX.out] at hz; cases hz; exact HT.out⟩
          case measure => simp [intOf]; omega
        · have HF : Hid (xs.all (standQ ns r) = false) := all_no EX.out (by rw [ES.out]; exact decide_eq_false hr)
          (go_wp2_with (first
    | (go_at_call 79; refine (unhide (CH _ HN2.out)).mono ?_; rintro e w2 ⟨rfl, hb2⟩; have HB3 := hide (HB2.out.trans (hb2.mono HB2.out.size)); have HN3 := hide (HN2.out.stays hb2); obtain ⟨f0, f1, f2, _⟩ := HX.out.stays HB3.out; obtain ⟨a', c', p, kv, e5, hpa, hpb, hnode⟩ := HN3.out.node y hyn; injection e5 with e6 e7 e8; subst e6; have d0 := hnode.c0; have d1 := hnode.c1; have d2 := hnode.c2; have d3 := hnode.c3; have d4 := hnode.c4; have d5 := hnode.c5; have HKI := hide hnode.kids; obtain ⟨ko, kc, rfl, _⟩ := hnode.kids; clear e7 e8 hnode hb2)
    | (go_at_call 87; refine Calls.mono (stands_any _ _ _ _ _ _ _ _ HKI.out) ?_; rintro e w4 ⟨rfl, hb4⟩; have HB3 := hide (HB3.out.trans (hb4.mono HB3.out.size)); clear hb4)))
          go_ret
          exact ⟨by rw [HF.out]; rfl, HB.out.trans (HB3.out.mono HB.out.size)⟩
    · have hlt' : ¬ (i : Int) < (m : Int) := by omega
      have HF : Hid (xs.all (standQ ns r) = true) := all_yes (fun j x hx => HA.out j x (by have := (List.getElem?_eq_some_iff.1 hx).1; rw [EM.out] at this; omega) hx)
      go_wp2
      go_ret
      exact ⟨by rw [HF.out]; rfl, HB.out.trans (HB2.out.mono HB.out.size)⟩
end Go.Proofs.YtdfahpachbhglaaGreatDoor

namespace Go.Proofs.YtdfahpachbhglaaGreatDoor
open Go.RowKit Go.Maps
open Go.WideMaps (keyOf_string_mk)

/-- The key words. -/
def keyS : List ByteArray := [⟨#[109, 111, 110, 105, 116, 111, 114]⟩, ⟨#[118, 97, 114]⟩, ⟨#[113, 117, 101, 117, 101]⟩, ⟨#[101, 110, 116, 114, 121]⟩, ⟨#[112, 114, 111, 99, 101, 115, 115]⟩, ⟨#[117, 115, 101, 115]⟩, ⟨#[98, 101, 103, 105, 110]⟩, ⟨#[101, 110, 100]⟩, ⟨#[105, 102]⟩, ⟨#[116, 104, 101, 110]⟩, ⟨#[101, 108, 115, 101]⟩, ⟨#[119, 104, 105, 108, 101]⟩, ⟨#[100, 111]⟩, ⟨#[99, 97, 108, 108]⟩, ⟨#[116, 111]⟩, ⟨#[112, 114, 105, 110, 116]⟩, ⟨#[114, 101, 97, 100]⟩, ⟨#[100, 101, 108, 97, 121]⟩, ⟨#[99, 111, 110, 116, 105, 110, 117, 101]⟩, ⟨#[115, 107, 105, 112]⟩, ⟨#[97, 110, 100]⟩, ⟨#[111, 114]⟩, ⟨#[110, 111, 116]⟩]
def keyB (s : ByteArray) : Bool := keyS.any fun x => decide (x = s)

def keyLits : List Lit := keyS.map fun x => .string x.data.toList
/-- Some map that holds these keys, in a block of its own. -/
def MapIs (w0 w : World) (n : Nat) (ks : List Lit) : Prop := w.ownsMap Tryz.prog 9 (unitElem (H := Unit)) w0.heap.size n (setOf (.agg []) ks) ∧ Below w0.heap.size w0 w

theorem lawS : Keyed Tryz.prog 9 := string_keyed Tryz.underlying9
theorem zeroU (w : World) : (zeroValue 160).run Tryz.prog w = .ok (.agg #[]) w := by kernel_rfl

theorem MapIs.made (w : World) : MapIs w (w.alloc (.map #[] 0)) 0 [] := ⟨World.ownsMap_made _ _ _ _, (Below.refl _ _).alloc (Nat.le_refl _) _⟩

theorem step_insert {w0 w : World} {ops : Array Oper} {rest : List Oper} {o : Oper} {a : Act} {Q : Exit → Act → World → Prop}
    (hg : o.guard = none) (m x v : Operand) (hop : o.op = Op.insert 165 m x v) (n : Nat) (ks : List Lit)
    (hm : a.eval m = .map (some w0.heap.size)) (hown : MapIs w0 w n ks) (hn : n < 1000) (s : ByteArray) (hs : s.size ≤ 1000) (hx : a.eval x = .string s) (hv : a.eval v = .agg #[])
    (hK : ∀ w', MapIs w0 w' (n + 1) (ks ++ [.string s.data.toList]) → wpList Tryz.prog ops Q rest (a.put o.dst undef) w') :
    wpList Tryz.prog ops Q (o :: rest) a w := by
  refine wpList_plain hg fun K' hK' => ?_
  obtain ⟨w', hrun, r1, r2⟩ := hown.1.update lawS Tryz.underlying165 (by unfold maxLen; omega) (keyOf_string_mk (s := s) Tryz.underlying9 (by unfold maxLen; omega)) unitElem_mk
  unfold Oper.wp
  simp [execOp, hop, hm, hx, hv, hrun, Result.andThen]
  refine hK' _ _ (hK w' ⟨?_, hown.2.grown r2 hown.2.size (fun j hj => by cases hj; exact Nat.le_refl _)⟩)
  rw [setOf_snoc]
  exact r1

set_option maxRecDepth 100000 in
set_option maxHeartbeats 2000000 in
theorem keyWords_any (w : World) : Calls Tryz.prog 102 #[] w fun e w' => e = .returned (.map (some w.heap.size)) ∧ MapIs w w' 23 keyLits := by
  have hmm := @run_makeMap Tryz.prog
  have h0 := MapIs.made w
  go_enter Tryz.func102, Tryz.ntmps102
  go_wp2_with (refine step_insert (w0 := w) rfl _ _ _ rfl _ _ rfl (by assumption) (by decide) _ (by decide) rfl rfl ?_; clear h0; intro w1 h0)
  go_ret
  exact ⟨rfl, h0⟩

theorem keyLits_key : ∀ x ∈ keyLits, WideAt.IsKeyLit x := by
  intro x hx
  obtain ⟨y, _, rfl⟩ := List.mem_map.1 hx
  trivial

theorem keyHas (s : ByteArray) : Maps.has (setOf (H := Unit) (.agg []) keyLits) (.string s.data.toList) = keyB s := by
  rw [has_setOf _ _ _ keyLits_key, keyLits, List.any_map, keyB]
  congr 1
  funext x
  show Lit.sameKey (.string x.data.toList) (.string s.data.toList) = _
  have e : x = s ↔ x.data = s.data := ⟨fun h => by rw [h], fun h => ByteArray.ext h⟩
  by_cases h : x = s
  · simp [Lit.sameKey, h]
  · have h' : ¬ x.data = s.data := fun q => h (e.2 q)
    simp [Lit.sameKey, h, h']

set_option maxRecDepth 100000 in
set_option maxHeartbeats 2000000 in
theorem implKeyWord_any (s : ByteArray) (w : World) (hs : s.size ≤ 1048576) : Calls Tryz.prog 86 #[.string s] w fun e w' => e = .returned (.bool (keyB s)) ∧ Below w.heap.size w w' := by
  have HS := hide (keyHas s)
  go_enter Tryz.func86, Tryz.ntmps86
  go_wp2_with (first
    | (go_at_call 102; refine (keyWords_any _).mono ?_; rintro e w1 ⟨rfl, h0⟩; have HB := hide h0.2)
    | (at_lookup; refine wpList_lookup_own_unit _ rfl _ _ 165 rfl 9 160 lawS Tryz.underlying165 (zeroU _) w.heap.size 23 _ rfl h0.1 _ _ rfl (keyOf_string_mk Tryz.underlying9 (by unfold maxLen; omega)) ?_; rw [HS.out]))
  go_ret
  exact ⟨rfl, HB.out.alloc HB.out.size _⟩

abbrev keyRow (w : World) : World := w.alloc (.cells (keyS.map Value.string).toArray 9)

set_option maxRecDepth 100000 in
theorem l04Keys_any (w : World) : Calls Tryz.prog 92 #[] w fun e w' => e = .returned (.slice (some ⟨w.heap.size, 0, none⟩) 23 23) ∧ w' = keyRow w := by
  go_enter Tryz.func92, Tryz.ntmps92
  go_wp2
  go_ret
  exact ⟨rfl, rfl⟩

theorem keyRow_cell (w : World) (k : Nat) (h : k < 23) : (keyRow w).cell? ⟨w.heap.size, k, none⟩ = some (.string (keyS.getD k ByteArray.empty)) := by
  have := (World.ownsRow_lit (base := w.heap.size) (e := 9) (size := 1) w (keyS.map Value.string).toArray 23 (Nat.le_refl _) (by unfold maxLen; omega) (by simp [keyS])).cellAt k h
  rw [this, List.getD_eq_getElem?_getD]
  simp [List.getElem?_eq_getElem (show k < keyS.length from h)]

theorem keyB_yes {s : ByteArray} {k : Nat} (h : k < 23) (e : keyS.getD k ByteArray.empty = s) : keyB s = true := by
  rw [keyB, List.any_eq_true]
  refine ⟨keyS.getD k ByteArray.empty, ?_, by rw [e]; exact decide_eq_true rfl⟩
  rw [List.getD_eq_getElem?_getD, List.getElem?_eq_getElem (show k < keyS.length from h)]
  exact List.getElem_mem _
theorem keyB_no {s : ByteArray} (h : ∀ k, k < 23 → keyS.getD k ByteArray.empty ≠ s) : keyB s = false := by
  rw [keyB, List.any_eq_false]
  intro x hx
  obtain ⟨j, hj, rfl⟩ := List.getElem_of_mem hx
  have := h j hj
  rw [List.getD_eq_getElem?_getD, List.getElem?_eq_getElem hj] at this
  simpa using this

set_option maxRecDepth 100000 in
set_option maxHeartbeats 2000000 in
theorem specKeyWord_any (s : ByteArray) (w : World) (hs : s.size ≤ 1048576) : Calls Tryz.prog 72 #[.string s] w fun e w' => e = .returned (.bool (keyB s)) ∧ Below w.heap.size w w' := by
  go_enter Tryz.func72, Tryz.ntmps72
  go_wp2_with (go_at_call 92; refine (l04Keys_any _).mono ?_; rintro e w1 ⟨rfl, hw1⟩; have HW := hide hw1; clear hw1)
  have HC : Hid (∀ k, k < 23 → w1.cell? ⟨w.heap.size, k, none⟩ = some (.string (keyS.getD k ByteArray.empty))) := by
    rw [HW.out]; exact keyRow_cell w
  have HB : Hid (Below w.heap.size w w1) := by
    rw [HW.out]; exact (Below.refl _ _).alloc (Nat.le_refl _) _
  clear HW
  go_loopw [4] (fun iv wr => ∃ k : Nat, k ≤ 23 ∧ iv = .int .i64 k ∧ wr = w1 ∧ Hid (∀ j, j < k → keyS.getD j ByteArray.empty ≠ s)) (fun iv _ => 23 - (intOf iv).toNat)
  case atStart => exact ⟨0, by omega, rfl, rfl, fun j hj => absurd hj (Nat.not_lt_zero j)⟩
  case round =>
    obtain ⟨k, hk, rfl, rfl, HN⟩ := hrel
    by_cases hlt : k < 23
    · have hc := HC.out k hlt
      have hi0 : (0 : Int) ≤ (k : Int) := by omega
      have hi1 : (k : Int) < 23 := by omega
      obtain ⟨x, ex⟩ : ∃ x, x = keyS.getD k ByteArray.empty := ⟨_, rfl⟩
      rw [← ex] at hc
      have EX := hide ex
      clear ex
      by_cases hx : x = s
      · have HF := hide (keyB_yes hlt (EX.out.symm.trans hx))
        subst hx
        go_wp2
        go_ret
        exact ⟨by rw [HF.out]; rfl, HB.out⟩
      · have hx' : (x.toList == s.toList) = false := by rw [Bool.eq_false_iff]; exact fun h => hx (str_beq.1 h)
        have HN2 : Hid (∀ j, j < k + 1 → keyS.getD j ByteArray.empty ≠ s) := fun j hj => by
          rcases Nat.lt_succ_iff_lt_or_eq.1 hj with hj | hj
          · exact HN.out j hj
          · subst hj; rw [← EX.out]; exact hx
        go_wp2
        go_roundw
        case rel => exact ⟨k + 1, by omega, by go_num, trivial, HN2⟩
        case measure => simp [intOf]; omega
    · have HF := hide (keyB_no (s := s) (fun j hj => HN.out j (by omega)))
      go_wp2
      go_ret
      exact ⟨by rw [HF.out]; rfl, HB.out⟩

end Go.Proofs.YtdfahpachbhglaaGreatDoor

namespace Go.Proofs.YtdfahpachbhglaaGreatDoor
open Go.RowKit

theorem get_bang (s : ByteArray) (j : Nat) (h : j < s.size) : s.get! j = s[j] := by
  simp [ByteArray.get!, getElem!_pos, h]
  rfl

theorem decodeN_span (n b0 b1 b2 b3 : Nat) (hn : 0 < n) : (Lib.decodeN n b0 b1 b2 b3).2 ≤ n ∧ (1 < (Lib.decodeN n b0 b1 b2 b3).2 → 128 ≤ b1) ∧ (2 < (Lib.decodeN n b0 b1 b2 b3).2 → 128 ≤ b2) ∧ (3 < (Lib.decodeN n b0 b1 b2 b3).2 → 128 ≤ b3) ∧ (Lib.decodeN n b0 b1 b2 b3).2 ≤ 4 := by
  unfold Lib.decodeN
  repeat' split
  all_goals (simp only []; omega)

/-- What a rune takes lies in the text, and all of its bytes but the first are 128 or above. -/
theorem decode_span (s : ByteArray) (pos : Nat) (h : pos < s.size) : pos + (Utf8.decode s pos).2 ≤ s.size ∧ ∀ j, 0 < j → j < (Utf8.decode s pos).2 → ∀ hj : pos + j < s.size, 128 ≤ s[pos + j].toNat := by
  rw [Lib.decode_at]
  obtain ⟨h1, a1, a2, a3, h4⟩ := decodeN_span (s.size - pos) (s.get! pos).toNat (s.get! (pos + 1)).toNat (s.get! (pos + 2)).toNat (s.get! (pos + 3)).toNat (by omega)
  refine ⟨by omega, fun j h0 hj hl => ?_⟩
  have : j = 1 ∨ j = 2 ∨ j = 3 := by omega
  rcases this with rfl | rfl | rfl
  · rw [← get_bang]; exact a1 hj
  · rw [← get_bang]; exact a2 hj
  · rw [← get_bang]; exact a3 hj

/-- How many bytes at the beginning are of a kind. -/
def headN (q : Nat → Bool) (l : List UInt8) : Nat := (l.takeWhile fun b => q b.toNat).length

theorem headN_le (q : Nat → Bool) (l : List UInt8) : headN q l ≤ l.length := by
  unfold headN
  exact (List.takeWhile_prefix _).length_le

theorem headN_at (q : Nat → Bool) : ∀ (l : List UInt8) (k : Nat), (∀ j, j < k → ∃ b, l[j]? = some b ∧ q b.toNat = true) → (k = l.length ∨ ∃ b, l[k]? = some b ∧ q b.toNat = false) → headN q l = k
  | [], k, _, h => by
    rcases h with h | ⟨b, hb, _⟩
    · simp at h; subst h; rfl
    · simp at hb
  | x :: l, 0, _, h => by
    rcases h with h | ⟨b, hb, hq⟩
    · simp at h
    · simp at hb; subst hb
      simp [headN, hq]
  | x :: l, k + 1, hA, h => by
    obtain ⟨b, hb, hq⟩ := hA 0 (by omega)
    simp at hb; subst hb
    have := headN_at q l k (fun j hj => by simpa using hA (j + 1) (by omega)) (by
      rcases h with h | h
      · simp at h; exact .inl h
      · simpa using .inr h)
    simp [headN, hq] at this ⊢
    exact this

theorem headN_in (q : Nat → Bool) (s : ByteArray) (k : Nat) (hA : ∀ j, j < k → ∀ h : j < s.size, q s[j].toNat = true) (hk : k ≤ s.size) (h : k = s.size ∨ ∃ hk : k < s.size, q s[k].toNat = false) : headN q s.data.toList = k := by
  have hl : s.data.toList.length = s.size := by rw [Array.length_toList]; rfl
  have hg : ∀ j (hj : j < s.size), s.data.toList[j]? = some s[j] := fun j hj => by
    rw [List.getElem?_eq_getElem (by omega)]; rfl
  refine headN_at q _ k (fun j hj => ⟨_, hg j (by omega), hA j hj (by omega)⟩) ?_
  rcases h with h | ⟨hk, h⟩
  · exact .inl (by omega)
  · exact .inr ⟨_, hg k hk, h⟩

theorem index_str9 {P : Program} {t : TypeId} (ht : P.underlying t = some .string) (s : ByteArray) (k : Nat) (h : k < s.size) (w : World) :
    (Instr.index t (.string s) (.int .i64 (k : Int))).run P w = .ok (.int .u8 (s[k].toNat : Int)) w := by
  simp [go_sem, ht, h]

/-- The kinds. -/
def letterQ (r : Nat) : Bool := decide (97 ≤ r ∧ r ≤ 122)
def figureQ (r : Nat) : Bool := decide (48 ≤ r ∧ r ≤ 57)
def blankQ (r : Nat) : Bool := decide (r = 32 ∨ r = 10)
def lineQ (r : Nat) : Bool := decide (r ≠ 10)
end Go.Proofs.YtdfahpachbhglaaGreatDoor

namespace Go.Proofs.YtdfahpachbhglaaGreatDoor
open Go.RowKit

theorem isLetter_any (r : Nat) (w : World) (h : r ≤ 2147483647) : Calls Tryz.prog 85 #[.int .i32 (r : Int)] w fun e w' => e = .returned (.bool (letterQ r)) ∧ w' = w := by
  by_cases h1 : 97 ≤ r
  · have e : letterQ r = decide ((r : Int) ≤ 122) := by
      simp only [letterQ, decide_eq_decide]; omega
    rw [e]
    go_enter Tryz.func85, Tryz.ntmps85
    go_wp2
    go_ret
    exact ⟨rfl, rfl⟩
  · have e : letterQ r = false := by simp [letterQ]; omega
    rw [e]
    go_enter Tryz.func85, Tryz.ntmps85
    go_wp2
    go_ret
    exact ⟨rfl, rfl⟩

set_option maxHeartbeats 1000000 in
theorem sizeOf_letter (s : ByteArray) (w : World) (_hs : s.size ≤ 1048576) : Calls Tryz.prog 84 #[.string s, .func (.func 85) #[] #[]] w fun e w' => e = .returned (.int .i64 (headN letterQ s.data.toList)) ∧ Below w.heap.size w w' := by
  go_enter Tryz.func84, Tryz.ntmps84
  go_wp2
  go_loopw [5] (fun _ wr => ∃ pos : Nat, wr = w.iter s pos ∧ pos ≤ s.size ∧ Hid (∀ j, j < pos → ∀ h : j < s.size, letterQ s[j].toNat = true)) (fun _ wr => s.size - wr.iterPos w.heap.size)
  case atStart => exact ⟨0, rfl, Nat.zero_le _, fun j hj => absurd hj (Nat.not_lt_zero j)⟩
  case round =>
    obtain ⟨pos, rfl, hps, HA⟩ := hrel
    by_cases hp : pos < s.size
    · have hsp := decode_span s pos hp
      have hhi : letterQ (Utf8.decode s pos).1 = letterQ s[pos].toNat ∧ (letterQ s[pos].toNat = true → ∀ j, pos < j → j < pos + (Utf8.decode s pos).2 → ∀ h : j < s.size, letterQ s[j].toNat = true) ∧ 1 ≤ (Utf8.decode s pos).2 := by
        by_cases h8 : s[pos].toNat < 128
        · rw [decode_ascii s pos hp h8]
          exact ⟨rfl, fun _ j h1 h2 => by simp at h2; omega, Nat.le_refl _⟩
        · obtain ⟨d1, d2⟩ := decode_high s pos hp (by omega)
          refine ⟨?_, fun hq j h1 h2 h => ?_, d2⟩
          · simp only [letterQ, decide_eq_decide]; omega
          · have := hsp.2 (j - pos) (by omega) (by omega) (by omega)
            have e : s[pos + (j - pos)]'(by omega) = s[j] := by congr 1; omega
            rw [e] at this
            simp only [letterQ, decide_eq_true_eq] at hq ⊢; omega
      have hrl := decode_le s pos
      obtain ⟨r, hr⟩ : ∃ r, r = (Utf8.decode s pos).1 := ⟨_, rfl⟩
      obtain ⟨wd, hwd⟩ : ∃ wd, wd = (Utf8.decode s pos).2 := ⟨_, rfl⟩
      have hnx : ∀ ty, (Instr.next (.pointer (some ⟨w.heap.size, 0, none⟩)) true ty).run Tryz.prog (w.iter s pos) = .ok (.tuple #[.bool true, .int .i64 pos, .int .i32 r]) (w.iter s (pos + wd)) := fun ty => by
        rw [hr, hwd]; exact run_next_any w s pos ty hp
      rw [← hr, ← hwd] at hhi
      rw [← hr] at hrl
      rw [← hwd] at hsp
      have hw1 := hhi.2.2
      have hw2 := hsp.1
      have HQ := hide hhi
      have HS := hide hsp
      clear hhi hsp hr hwd
      have CL := fun w => hide (isLetter_any r w hrl)
      cases hq : letterQ r with
      | true =>
        rw [hq] at CL
        have HA2 : Hid (∀ j, j < pos + wd → ∀ h : j < s.size, letterQ s[j].toNat = true) := fun j hj h => by
          by_cases h1 : j < pos
          · exact HA.out j h1 h
          · by_cases h2 : j = pos
            · subst h2; rw [← HQ.out.1]; exact hq
            · exact HQ.out.2.1 (by rw [← HQ.out.1]; exact hq) j (by omega) hj h
        clear hq
        go_wp2_with (go_at_call 85; refine (unhide (CL _)).mono ?_; rintro e w1 ⟨rfl, rfl⟩)
        go_roundw
        case rel => exact ⟨pos + wd, rfl, hw2, HA2⟩
        case measure => simp; omega
      | false =>
        rw [hq] at CL
        have HF := hide (headN_in letterQ s pos HA.out hps (.inr ⟨hp, by rw [← HQ.out.1]; exact hq⟩))
        clear hq
        go_wp2_with (go_at_call 85; refine (unhide (CL _)).mono ?_; rintro e w1 ⟨rfl, rfl⟩)
        go_ret
        exact ⟨by rw [HF.out]; rfl, (Below.refl _ _).alloc (Nat.le_refl _) _⟩
    · have hnx : ∀ ty, (Instr.next (.pointer (some ⟨w.heap.size, 0, none⟩)) true ty).run Tryz.prog (w.iter s pos) = _ := fun ty => run_next_end w s pos ty hp
      have HF := hide (headN_in letterQ s pos HA.out hps (.inl (by omega)))
      have HE : Hid (pos = s.size) := show pos = s.size by omega
      go_wp2
      go_ret
      exact ⟨by rw [HF.out, HE.out]; rfl, (Below.refl _ _).alloc (Nat.le_refl _) _⟩

end Go.Proofs.YtdfahpachbhglaaGreatDoor
