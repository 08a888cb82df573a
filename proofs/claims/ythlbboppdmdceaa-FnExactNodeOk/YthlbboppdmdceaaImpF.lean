/-
  Walks: nodes held against each other, kids ahead of a node, by the program.
-/
import Derived.Test.YthlbboppdmdceaaImpE
namespace Go.Proofs.Ythlbboppdmdceaa
open Go.RowKit

/-- Are two nodes the same? -/
def sameB (x y : Nd) : Bool := decide (x.kind = y.kind) && decide (x.num = y.num) && (x.name.toList == y.name.toList) && (x.more.toList == y.more.toList) && (x.into.toList == y.into.toList) && decide (x.kids = y.kids)

set_option maxRecDepth 100000 in
set_option maxHeartbeats 2000000 in
theorem same_any (x y : Nd) (kv kv' : Value) (w : World) (hk1 : IntsAt w kv x.kids) (hk2 : IntsAt w kv' y.kids) (hl1 : x.kids.length ≤ 1048576) (hl2 : y.kids.length ≤ 1048576) :
    Calls Try.prog 25 #[.agg #[.int .i64 x.kind, .int .i64 x.num, .string x.name, .string x.more, .string x.into, kv], .agg #[.int .i64 y.kind, .int .i64 y.num, .string y.name, .string y.more, .string y.into, kv']] w
      fun e w' => e = .returned (.bool (sameB x y)) ∧ Below w.heap.size w w' := by
  have C := fun w h1 h2 => hide (equal_any kv kv' x.kids y.kids w h1 h2 hl1 hl2)
  have HB : Hid (Below w.heap.size w ((w.alloc (.cells #[.int .i64 x.kind, .int .i64 x.num, .string x.name, .string x.more, .string x.into, kv] 45)).alloc (.cells #[.int .i64 y.kind, .int .i64 y.num, .string y.name, .string y.more, .string y.into, kv'] 45))) := by
    show Below _ _ _; go_grown
  have HK1 : Hid (IntsAt ((w.alloc (.cells #[.int .i64 x.kind, .int .i64 x.num, .string x.name, .string x.more, .string x.into, kv] 45)).alloc (.cells #[.int .i64 y.kind, .int .i64 y.num, .string y.name, .string y.more, .string y.into, kv'] 45)) kv x.kids) := hk1.stays HB.out
  have HK2 : Hid (IntsAt ((w.alloc (.cells #[.int .i64 x.kind, .int .i64 x.num, .string x.name, .string x.more, .string x.into, kv] 45)).alloc (.cells #[.int .i64 y.kind, .int .i64 y.num, .string y.name, .string y.more, .string y.into, kv'] 45)) kv' y.kids) := hk2.stays HB.out
  obtain ⟨ao, c, rfl, _⟩ := hk1
  obtain ⟨bo, d, rfl, _⟩ := hk2
  obtain ⟨n, en⟩ : ∃ n, x.kids.length = n := ⟨_, rfl⟩
  obtain ⟨m, em⟩ : ∃ m, y.kids.length = m := ⟨_, rfl⟩
  obtain ⟨q, eq⟩ : ∃ q, decide (x.kids = y.kids) = q := ⟨_, rfl⟩
  obtain ⟨s, es⟩ : ∃ s, sameB x y = s := ⟨_, rfl⟩
  have HS : Hid (sameB x y = s) := es
  rw [es]
  rw [sameB, eq] at es
  obtain ⟨a0, a1, a2, a3, a4, a5⟩ := x
  obtain ⟨b0, b1, b2, b3, b4, b5⟩ := y
  dsimp only at *
  rw [en, em] at C HB HK1 HK2 ⊢
  rw [eq] at C
  clear en em eq hl1 hl2 HS
  by_cases h0 : a0 = b0
  · subst h0
    by_cases h1 : a1 = b1
    · subst h1
      cases h2 : (a2.toList == b2.toList) with
      | false => 
        have HF : Hid (s = false) := by rw [← es, h2]; show _ = _; simp
        clear es
        (
  go_enter Try.func25, Try.ntmps25;
  go_wp2_with (go_at_call 50; refine (unhide (C _ HK1.out HK2.out)).mono ?_; rintro e w2 ⟨rfl, hb2⟩; have HB := hide (HB.out.trans (hb2.mono HB.out.size)); clear hb2);
  go_ret;
  exact ⟨by rw [HF.out]; rfl, HB.out⟩)
      | true =>
        cases h3 : (a3.toList == b3.toList) with
        | false => 
          have HF : Hid (s = false) := by rw [← es, h3]; show _ = _; simp
          clear es
          (
  go_enter Try.func25, Try.ntmps25;
  go_wp2_with (go_at_call 50; refine (unhide (C _ HK1.out HK2.out)).mono ?_; rintro e w2 ⟨rfl, hb2⟩; have HB := hide (HB.out.trans (hb2.mono HB.out.size)); clear hb2);
  go_ret;
  exact ⟨by rw [HF.out]; rfl, HB.out⟩)
        | true =>
          cases h4 : (a4.toList == b4.toList) with
          | false => 
            have HF : Hid (s = false) := by rw [← es, h4]; show _ = _; simp
            clear es
            (
  go_enter Try.func25, Try.ntmps25;
  go_wp2_with (go_at_call 50; refine (unhide (C _ HK1.out HK2.out)).mono ?_; rintro e w2 ⟨rfl, hb2⟩; have HB := hide (HB.out.trans (hb2.mono HB.out.size)); clear hb2);
  go_ret;
  exact ⟨by rw [HF.out]; rfl, HB.out⟩)
          | true =>
            have HF : Hid (s = q) := by rw [← es, h2, h3, h4]; show _ = _; simp
            clear es
            (
  go_enter Try.func25, Try.ntmps25;
  go_wp2_with (go_at_call 50; refine (unhide (C _ HK1.out HK2.out)).mono ?_; rintro e w2 ⟨rfl, hb2⟩; have HB := hide (HB.out.trans (hb2.mono HB.out.size)); clear hb2);
  go_ret;
  exact ⟨by rw [HF.out]; rfl, HB.out⟩)
    · have HF : Hid (s = false) := by rw [← es]; show _ = _; simp [h1]
      clear es
      (
  go_enter Try.func25, Try.ntmps25;
  go_wp2_with (go_at_call 50; refine (unhide (C _ HK1.out HK2.out)).mono ?_; rintro e w2 ⟨rfl, hb2⟩; have HB := hide (HB.out.trans (hb2.mono HB.out.size)); clear hb2);
  go_ret;
  exact ⟨by rw [HF.out]; rfl, HB.out⟩)
  · have HF : Hid (s = false) := by rw [← es]; show _ = _; simp [h0]
    clear es
    (
  go_enter Try.func25, Try.ntmps25;
  go_wp2_with (go_at_call 50; refine (unhide (C _ HK1.out HK2.out)).mono ?_; rintro e w2 ⟨rfl, hb2⟩; have HB := hide (HB.out.trans (hb2.mono HB.out.size)); clear hb2);
  go_ret;
  exact ⟨by rw [HF.out]; rfl, HB.out⟩)
end Go.Proofs.Ythlbboppdmdceaa
