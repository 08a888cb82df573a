/-
  Walks: an if and a block made of their types; nodes held against each other, kids ahead of a node, by the program.
-/
import Derived.Test.YthlbboppdmdceaaImpD
import Derived.Test.YthlbboppdmdceaaBoxP
import Derived.Test.YthlbboppdmdceaaTreeZ
namespace Go.Proofs.Ythlbboppdmdceaa
open Go.RowKit

theorem IntsAt.more {w : World} {g : Nat} (hg : g = w.heap.size) (xs : List Int) (zs : Array Value) (t : TypeId) (n c : Nat) (hn : n = xs.length) : IntsAt (w.alloc (.cells ((xs.map I64).toArray ++ zs) t)) (.slice (some ⟨g, 0, none⟩) n c) xs := by
  subst hg hn
  refine ⟨_, c, rfl, fun j hj => ⟨_, rfl, by simp, ?_⟩⟩
  have e : (⟨w.heap.size, 0, none⟩ : Addr).add j = ⟨w.heap.size, j, none⟩ := by
    simp only [Addr.add]
    split
    · next h => subst h; rfl
    · simp
  rw [e, World.cell?_alloc_new]
  rw [Array.getElem?_append_left (by simpa using hj)]
  simp [hj, I64]
def ifKids (a b c : Int) : List Int := if c = -1 then [a, b] else [a, b, c]

set_option maxRecDepth 100000 in
set_option maxHeartbeats 1000000 in
theorem ifNode_node (a b c : Int) (w : World) :
    Calls Try.prog 102 #[.agg #[.int .i64 a, .int .i64 b, .int .i64 c]] w fun e w' => ∃ v, e = .returned v ∧ NodeV w' ⟨12, 0, ByteArray.empty, ByteArray.empty, ByteArray.empty, ifKids a b c⟩ v ∧ Below w.heap.size w w' := by
  by_cases hc : c = -1
  · have HK : Hid (ifKids a b c = [a, b]) := if_pos hc
    rw [HK.out]
    subst hc
    go_enter Try.func102, Try.ntmps102
    go_wp2
    go_returns
    exact ⟨_, rfl, ⟨_, rfl, IntsAt.made (by simp) [a, b] 3 2 2 rfl⟩, by go_grown⟩
  · have HK : Hid (ifKids a b c = [a, b, c]) := if_neg hc
    rw [HK.out]
    go_enter Try.func102, Try.ntmps102
    go_wp2
    go_returns
    exact ⟨_, rfl, ⟨_, rfl, (IntsAt.more (by simp) [a, b, c] _ 3 3 _ rfl).stays (Below.refl _ _).drew⟩, by go_grown⟩

set_option maxHeartbeats 1000000 in
theorem blockNode_node (v : Value) (ks : List Int) (w : World) (hK : IntsAt w v ks) (hl : ks.length ≤ 1048576) :
    Calls Try.prog 110 #[.agg #[v]] w fun e w' => ∃ v, e = .returned v ∧ NodeV w' ⟨20, 0, ByteArray.empty, ByteArray.empty, ByteArray.empty, ks⟩ v ∧ Below w.heap.size w w' := by
  have C := fun w h => hide (clone_any v ks w h hl)
  have HP : Hid (Box ((w.alloc (.cells #[v] 107)).alloc (.cells #[.int .i64 0, .int .i64 0, .string ⟨#[]⟩, .string ⟨#[]⟩, .string ⟨#[]⟩, .slice none 0 0] 45)) (w.heap.size + 1) #[.int .i64 0, .int .i64 0, .string ⟨#[]⟩, .string ⟨#[]⟩, .string ⟨#[]⟩, .slice none 0 0] 45) := Box.madeAt (by simp) _ _
  have HK : Hid (IntsAt ((w.alloc (.cells #[v] 107)).alloc (.cells #[.int .i64 0, .int .i64 0, .string ⟨#[]⟩, .string ⟨#[]⟩, .string ⟨#[]⟩, .slice none 0 0] 45)) v ks) := (hK.stays ((Below.refl _ _).alloc (Nat.le_refl _) _)).stays ((Below.refl _ _).alloc (Nat.le_refl _) _)
  have HB0 : Hid (Below w.heap.size w ((w.alloc (.cells #[v] 107)).alloc (.cells #[.int .i64 0, .int .i64 0, .string ⟨#[]⟩, .string ⟨#[]⟩, .string ⟨#[]⟩, .slice none 0 0] 45))) := by show Below _ _ _; go_grown
  obtain ⟨ao, c, rfl, _⟩ := hK
  clear hl
  go_enter Try.func110, Try.ntmps110
  go_wp2_with (go_at_call 111; refine (unhide (C _ HK.out)).mono ?_; rintro e w2 ⟨v2, rfl, hv2, hb2⟩; have HB := hide (HB0.out.trans (hb2.mono HB0.out.size)); have HW := hide hv2; obtain ⟨o2, c2, rfl, hr2, hc2⟩ := hv2; rw [List.length_map] at HW; have hlm : (ks.map I64).length = ks.length := List.length_map ..; have hp := HP.out.stays hb2; have HQ := hide hp; have f0 := Lib.cell_of_heap hp 0; have f1 := Lib.cell_of_heap hp 1; have f2 := Lib.cell_of_heap hp 2; have f3 := Lib.cell_of_heap hp 3; have f4 := Lib.cell_of_heap hp 4; have f5 := Lib.cell_of_heap hp 5; have z0 := Lib.frozen_of_heap hp 0; have z1 := Lib.frozen_of_heap hp 1; have z2 := Lib.frozen_of_heap hp 2; have z3 := Lib.frozen_of_heap hp 3; have z4 := Lib.frozen_of_heap hp 4; have z5 := Lib.frozen_of_heap hp 5; simp at f0 f1 f2 f3 f4 f5; clear hb2 hc2 hp hr2)
  refine box_ret (g := w.heap.size + 1) (cs := #[.int .i64 20, .int .i64 0, .string ⟨#[]⟩, .string ⟨#[]⟩, .string ⟨#[]⟩, .slice o2 ks.length c2]) rfl rfl (by simpa using (((((HQ.out.set 0 _).set 1 _).set 2 _).set 3 _).set 4 _).set 5 _) _ Try.underlying45 rfl (by kernel_rfl) rfl ?_
  refine ⟨_, rfl, ⟨_, rfl, ?_⟩, ?_⟩
  · refine IntsIn.at (base := w.heap.size + 2) ?_
    iterate 6 refine CellsIn.kept ?_ (KeptFrom.setCell (by omega) _ _ _)
    have := HW.out.mono (base' := w.heap.size + 2) (by simp)
    simpa using this
  · exact (((((HB.out.setCell (by simp) _).setCell (by simp) _).setCell (by simp) _).setCell (by simp) _).setCell (by simp) _).setCell (by simp) _
end Go.Proofs.Ythlbboppdmdceaa

namespace Go.Proofs.Ythlbboppdmdceaa
open Go.RowKit

/-- Are two nodes the same? -/
def sameB (x y : Nd) : Bool := decide (x.kind = y.kind) && decide (x.num = y.num) && (x.name.toList == y.name.toList) && (x.more.toList == y.more.toList) && (x.into.toList == y.into.toList) && decide (x.kids = y.kids)

set_option maxRecDepth 100000 in
set_option maxHeartbeats 2000000 in
theorem same_any (x y : Nd) (kv kv' : Value) (w : World) (hk1 : IntsAt w kv x.kids) (hk2 : IntsAt w kv' y.kids) (hl1 : x.kids.length ≤ 1048576) (hl2 : y.kids.length ≤ 1048576) :
    Calls Try.prog 25 #[.agg #[.int .i64 x.kind, .int .i64 x.num, .string x.name, .string x.more, .string x.into, kv], .agg #[.int .i64 y.kind, .int .i64 y.num, .string y.name, .string y.more, .string y.into, kv']] w
      fun e w' => e = .returned (.bool (sameB x y)) ∧ Below w.heap.size w w' := by
  have C := fun w h1 h2 => hide (equal_any kv kv' x.kids y.kids w h1 h2 hl1 hl2)
  have HB : Hid (Below w.heap.size w ((w.alloc (.cells #[.int .i64 x.kind, .int .i64 x.num, .string x.name, .string x.more, .string x.into, kv] 45)).alloc (.cells #[.int .i64 y.kind, .int .i64 y.num, .string y.name, .string y.more, .string y.into, kv'] 45))) := by
    show Below _ _ _; go_grown
  have HK1 : Hid (IntsAt ((w.alloc (.cells #[.int .i64 x.kind, .int .i64 x.num, .string x.name, .string x.more, .string x.into, kv] 45)).alloc (.cells #[.int .i64 y.kind, .int .i64 y.num, .string y.name, .string y.more, .string y.into, kv'] 45)) kv x.kids) := hk1.stays HB.out
  have HK2 : Hid (IntsAt ((w.alloc (.cells #[.int .i64 x.kind, .int .i64 x.num, .string x.name, .string x.more, .string x.into, kv] 45)).alloc (.cells #[.int .i64 y.kind, .int .i64 y.num, .string y.name, .string y.more, .string y.into, kv'] 45)) kv' y.kids) := hk2.stays HB.out
  obtain ⟨ao, c, rfl, _⟩ := hk1
  obtain ⟨bo, d, rfl, _⟩ := hk2
  obtain ⟨n, en⟩ : ∃ n, x.kids.length = n := ⟨_, rfl⟩
  obtain ⟨m, em⟩ : ∃ m, y.kids.length = m := ⟨_, rfl⟩
  obtain ⟨q, eq⟩ : ∃ q, decide (x.kids = y.kids) = q := ⟨_, rfl⟩
  obtain ⟨s, es⟩ : ∃ s, sameB x y = s := ⟨_, rfl⟩
  have HS : Hid (sameB x y = s) := es
  rw [es]
  rw [sameB, eq] at es
  obtain ⟨a0, a1, a2, a3, a4, a5⟩ := x
  obtain ⟨b0, b1, b2, b3, b4, b5⟩ := y
  dsimp only at *
  rw [en, em] at C HB HK1 HK2 ⊢
  rw [eq] at C
  clear en em eq hl1 hl2 HS
  by_cases h0 : a0 = b0
  · subst h0
    by_cases h1 : a1 = b1
    · subst h1
      cases h2 : (a2.toList == b2.toList) with
      | false => 
        have HF : Hid (s = false) := by rw [← es, h2]; show _ = _; simp
        clear es
        (
  go_enter Try.func25, Try.ntmps25;
  go_wp2_with (go_at_call 50; refine (unhide (C _ HK1.out HK2.out)).mono ?_; rintro e w2 ⟨rfl, hb2⟩; have HB := hide (HB.out.trans (hb2.mono HB.out.size)); clear hb2);
  go_ret;
  exact ⟨by rw [HF.out]; rfl, HB.out⟩)
      | true =>
        cases h3 : (a3.toList == b3.toList) with
        | false => 
          have HF : Hid (s = false) := by rw [← es, h3]; show _ = _; simp
          clear es
          (
  go_enter Try.func25, Try.ntmps25;
  go_wp2_with (go_at_call 50; refine (unhide (C _ HK1.out HK2.out)).mono ?_; rintro e w2 ⟨rfl, hb2⟩; have HB := hide (HB.out.trans (hb2.mono HB.out.size)); clear hb2);
  go_ret;
  exact ⟨by rw [HF.out]; rfl, HB.out⟩)
        | true =>
          cases h4 : (a4.toList == b4.toList) with
          | false => 
            have HF : Hid (s = false) := by rw [← es, h4]; show _ = _; simp
            clear es
            (
  go_enter Try.func25, Try.ntmps25;
  go_wp2_with (go_at_call 50; refine (unhide (C _ HK1.out HK2.out)).mono ?_; rintro e w2 ⟨rfl, hb2⟩; have HB := hide (HB.out.trans (hb2.mono HB.out.size)); clear hb2);
  go_ret;
  exact ⟨by rw [HF.out]; rfl, HB.out⟩)
          | true =>
            have HF : Hid (s = q) := by rw [← es, h2, h3, h4]; show _ = _; simp
            clear es
            (
  go_enter Try.func25, Try.ntmps25;
  go_wp2_with (go_at_call 50; refine (unhide (C _ HK1.out HK2.out)).mono ?_; rintro e w2 ⟨rfl, hb2⟩; have HB := hide (HB.out.trans (hb2.mono HB.out.size)); clear hb2);
  go_ret;
  exact ⟨by rw [HF.out]; rfl, HB.out⟩)
    · have HF : Hid (s = false) := by rw [← es]; show _ = _; simp [h1]
      clear es
      (
  go_enter Try.func25, Try.ntmps25;
  go_wp2_with (go_at_call 50; refine (unhide (C _ HK1.out HK2.out)).mono ?_; rintro e w2 ⟨rfl, hb2⟩; have HB := hide (HB.out.trans (hb2.mono HB.out.size)); clear hb2);
  go_ret;
  exact ⟨by rw [HF.out]; rfl, HB.out⟩)
  · have HF : Hid (s = false) := by rw [← es]; show _ = _; simp [h0]
    clear es
    (
  go_enter Try.func25, Try.ntmps25;
  go_wp2_with (go_at_call 50; refine (unhide (C _ HK1.out HK2.out)).mono ?_; rintro e w2 ⟨rfl, hb2⟩; have HB := hide (HB.out.trans (hb2.mono HB.out.size)); clear hb2);
  go_ret;
  exact ⟨by rw [HF.out]; rfl, HB.out⟩)
end Go.Proofs.Ythlbboppdmdceaa

namespace Go.Proofs.Ythlbboppdmdceaa
open Go.RowKit

/-- Kids that are places ahead, no two the same, no more than a node wants. -/
def AheadP (ks : List Int) (k : Int) : Prop := ks.length ≤ 12 ∧ (∀ x ∈ ks, 0 ≤ x ∧ x < k) ∧ ks.Nodup
instance (ks : List Int) (k : Int) : Decidable (AheadP ks k) := by unfold AheadP; infer_instance
def aheadB (ks : List Int) (k : Int) : Bool := decide (AheadP ks k)

def AheadR (W : World) (ks : List Int) (k : Int) (iv : Value) (wr : World) : Prop :=
  ∃ i : Nat, i ≤ ks.length ∧ iv = .int .i64 i ∧ wr = W ∧ Hid ((∀ x ∈ ks.take i, 0 ≤ x ∧ x < k) ∧ (ks.take i).Nodup)

theorem IntsAt.take {w : World} {a : Addr} {c : Nat} {ks : List Int} (h : IntsAt w (.slice (some a) ks.length c) ks) (i : Nat) (hi : i ≤ ks.length) : IntsAt w (.slice (some a) i c) (ks.take i) := by
  obtain ⟨ao, c', e, hc⟩ := h
  injection e with e1 e2 e3
  subst e1 e3
  refine ⟨some a, c, by rw [List.length_take, Nat.min_eq_left hi], fun j hj => ?_⟩
  rw [List.length_take] at hj
  obtain ⟨a', e, h1, h2⟩ := hc j (by omega)
  exact ⟨a', e, h1, by rw [List.getElem_take]; exact h2⟩

set_option maxRecDepth 100000 in
set_option maxHeartbeats 2000000 in
theorem kidsAhead_any (kd nu : Int) (nm mo it : ByteArray) (kv : Value) (ks : List Int) (k : Int) (w : World) (hK : IntsAt w kv ks) (hr : Room kv) :
    Calls Try.prog 26 #[.agg #[.int .i64 kd, .int .i64 nu, .string nm, .string mo, .string it, kv], .int .i64 k] w fun e w' => e = .returned (.bool (aheadB ks k)) ∧ Below w.heap.size w w' := by
  have hb : Below w.heap.size w (w.alloc (.cells #[.int .i64 kd, .int .i64 nu, .string nm, .string mo, .string it, kv] 45)) := (Below.refl _ _).alloc (Nat.le_refl _) _
  have hx := hide (NdBox.made w kd nu nm mo it kv 45)
  have HK := hide (hK.stays hb)
  have HB := hide hb
  clear hb
  obtain ⟨ao, c, rfl, _⟩ := hK
  have hr2 : ks.length ≤ c := hr
  obtain ⟨n, en⟩ : ∃ n, ks.length = n := ⟨_, rfl⟩
  have EN := hide en
  rw [en] at HK HB hx hr2 ⊢
  clear en hr
  by_cases h12 : n ≤ 12
  · have h12' : ¬ (12 : Int) < (n : Int) := by omega
    go_enter Try.func26, Try.ntmps26
    go_wp2
    obtain ⟨W, hW⟩ : ∃ W, w.alloc (.cells #[.int .i64 kd, .int .i64 nu, .string nm, .string mo, .string it, .slice ao n c] 45) = W := ⟨_, rfl⟩
    rw [hW] at HK HB hx ⊢
    clear hW
    go_loopw [14] (AheadR W ks k) (fun iv _ => n - (intOf iv).toNat)
    case atStart => exact ⟨0, by omega, rfl, rfl, by simp, by simp⟩
    case round =>
      obtain ⟨i, hi, rfl, rfl, HA⟩ := hrel
      rw [EN.out] at hi
      obtain ⟨c0, c1, c2, c3, c4, c5, _⟩ := hx.out
      by_cases hlt : i < n
      · have hlt' : (i : Int) < (n : Int) := by omega
        have hi0 : (0 : Int) ≤ (i : Int) := by omega
        have hic : (i : Int) ≤ (c : Int) := by omega
        have hix : i < ks.length := by rw [EN.out]; exact hlt
        obtain ⟨ao', c', e1, hc1⟩ := HK.out
        injection e1 with e2 e3 e4
        subst e2
        obtain ⟨a, rfl, _, hxx⟩ := hc1 i hix
        have HT : Hid (IntsAt wr (.slice (some a) i c) (ks.take i)) := IntsAt.take (by have := HK.out; rwa [← EN.out] at this) i (by omega)
        have hl12 : (ks.take i).length ≤ 1048576 := by rw [List.length_take]; omega
        have C := fun w h => hide (contains_any (.slice (some a) i c) (ks.take i) ks[i] w h hl12)
        have HX : Hid (ks.take (i + 1) = ks.take i ++ [ks[i]]) := List.take_succ_eq_append_getElem hix
        have HM : Hid (ks[i] ∈ ks) := List.getElem_mem hix
        have HD : Hid (ks[i] ∈ ks.take i → ¬ ks.Nodup) := fun h1 h2 => by
          obtain ⟨j, hj, e⟩ := List.mem_take_iff_getElem.1 h1
          have := List.pairwise_iff_getElem.1 h2 j i (by omega) hix (by omega)
          exact this e
        obtain ⟨x, ex⟩ : ∃ x, ks[i] = x := ⟨_, rfl⟩
        rw [ex] at hxx C HX HM HD
        clear ex hc1 e3 e4 hl12
        by_cases hx0 : x < 0
        · have HF : Hid (aheadB ks k = false) := by
            show _ = _
            rw [aheadB, decide_eq_false_iff_not]
            exact fun h => absurd (h.2.1 x HM.out).1 (by omega)
          (go_wp2_with (go_at_call 51; refine (unhide (C _ HT.out)).mono ?_; rintro e w2 ⟨rfl, rfl⟩))
          go_ret
          exact ⟨by rw [HF.out]; rfl, HB.out⟩
        · by_cases hxk : k ≤ x
          · have HF : Hid (aheadB ks k = false) := by
              show _ = _
              rw [aheadB, decide_eq_false_iff_not]
              exact fun h => absurd (h.2.1 x HM.out).2 (by omega)
            (go_wp2_with (go_at_call 51; refine (unhide (C _ HT.out)).mono ?_; rintro e w2 ⟨rfl, rfl⟩))
            go_ret
            exact ⟨by rw [HF.out]; rfl, HB.out⟩
          · by_cases hin : x ∈ ks.take i
            · have HF : Hid (aheadB ks k = false) := by
                show _ = _
                rw [aheadB, decide_eq_false_iff_not]
                exact fun h => HD.out hin h.2.2
              have e : decide (x ∈ ks.take i) = true := decide_eq_true hin
              rw [e] at C
              clear hin e
              (go_wp2_with (go_at_call 51; refine (unhide (C _ HT.out)).mono ?_; rintro e w2 ⟨rfl, rfl⟩))
              go_ret
              exact ⟨by rw [HF.out]; rfl, HB.out⟩
            · have e : decide (x ∈ ks.take i) = false := decide_eq_false hin
              have HIN := hide hin
              rw [e] at C
              clear hin e
              (go_wp2_with (go_at_call 51; refine (unhide (C _ HT.out)).mono ?_; rintro e w2 ⟨rfl, rfl⟩))
              go_roundw
              case rel => exact ⟨i + 1, by rw [EN.out]; omega, by go_num, rfl, by
                rw [HX.out]
                obtain ⟨h1, h2⟩ := HA.out
                refine ⟨fun y hy => ?_, List.nodup_append.2 ⟨h2, by simp, fun a ha b hb => ?_⟩⟩
                · rcases List.mem_append.1 hy with hy | hy
                  · exact h1 y hy
                  · simp at hy; subst hy; omega
                · simp at hb; subst hb; exact fun e => HIN.out (e ▸ ha)⟩
              case measure => simp [intOf]; omega
      · have hlt' : ¬ (i : Int) < (n : Int) := by omega
        have HF : Hid (aheadB ks k = true) := by
          show _ = _
          have h := HA.out
          rw [List.take_of_length_le (by rw [EN.out]; omega)] at h
          rw [aheadB, decide_eq_true_eq]
          exact ⟨by rw [EN.out]; exact h12, h.1, h.2⟩
        go_wp2
        go_ret
        exact ⟨by rw [HF.out]; rfl, HB.out⟩
  · have h12' : (12 : Int) < (n : Int) := by omega
    have HF : Hid (aheadB ks k = false) := by
      show _ = _
      rw [aheadB, decide_eq_false_iff_not]
      exact fun h => h12 (by rw [← EN.out]; exact h.1)
    go_enter Try.func26, Try.ntmps26
    go_wp2
    go_ret
    exact ⟨by rw [HF.out]; rfl, HB.out⟩
end Go.Proofs.Ythlbboppdmdceaa
