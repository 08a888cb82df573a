/-
  Walks: what kids a node wants, by the specification: kind by kind.
-/
import Derived.Test.YtpdpmnkonkpheaaGreatRowQ
import Derived.Test.YtpdpmnkonkpheaaGreatImpB
import Derived.Test.YtpdpmnkonkpheaaGreatAid
import Derived.Test.YtpdpmnkonkpheaaGreatChecked
import Derived.WalkKit
namespace Go.Proofs.YtpdpmnkonkpheaaGreat
open Go.RowKit

def StmtsR (W1 : World) (l : List Int) (m : Nat) (iv : Value) (wr : World) : Prop :=
  ∃ i : Nat, i ≤ m ∧ iv = .int .i64 i ∧ Hid (Below W1.heap.size W1 wr) ∧ Hid (∀ j x, j < i → l[j]? = some x → stmtQ x = true)
theorem all_no {α : Type} {q : α → Bool} {l : List α} {i : Nat} {x : α} (h : l[i]? = some x) (hq : q x = false) : l.all q = false := by
  have := all_drop_no (n := 0) h (Nat.zero_le _) hq
  simpa using this
theorem all_yes {α : Type} {q : α → Bool} {l : List α} (h : ∀ (j : Nat) (x : α), l[j]? = some x → q x = true) : l.all q = true := by
  have := all_drop_yes (l := l) (q := q) (n := 0) (fun j x _ => h j x)
  simpa using this

set_option maxRecDepth 100000 in
set_option maxHeartbeats 4000000 in
theorem l05Kids_any (nv mv pv : Value) (ns : List Nd) (k : Nat) (w : World) (hN : NdsAt w nv ns) (hk : k < ns.length) (hl : ns.length ≤ 1048576) (hkl : ns[k].kids.length ≤ 1048576) :
    Calls Tryz.prog 104 #[.agg #[nv, mv, pv], .int .i64 (k : Int)] w fun e w' => e = .returned (.bool (kidsB ns[k].kind (kinds ns k))) ∧ Below w.heap.size w w' := by
  have hb1 : Below w.heap.size w (w.alloc (.cells #[nv, mv, pv] 33)) := (Below.refl _ _).alloc (Nat.le_refl _) _
  have HN := hide (hN.stays hb1)
  have HX := hide (Boxed.made w nv mv pv 33)
  have HB := hide hb1
  obtain ⟨a, c, p, kv, rfl, hpa, hpb, hcell⟩ := HN.out.node k hk
  have d0 := hcell.c0
  have d5 := hcell.c5
  obtain ⟨bo, cb, rfl, _⟩ := hcell.kids
  have hi0 : (0 : Int) ≤ (k : Int) := by omega
  have hi1 : (k : Int) < (ns.length : Int) := by omega
  have CV := fun n hn w (h : NdsAt w (.slice (some a) ns.length c) ns) => hide (l05Values_any (.slice (some a) ns.length c) mv pv ns k n w h hk hn hl hkl)
  have CB := fun n hn w (h : NdsAt w (.slice (some a) ns.length c) ns) => hide (l05Blocks_any (.slice (some a) ns.length c) mv pv ns k n w h hk hn hl hkl)
  have CK := fun i hi w (h : NdsAt w (.slice (some a) ns.length c) ns) => hide (l05Kid_any (.slice (some a) ns.length c) mv pv ns k i w h hk hi hl)
  have HL := hide (kinds_len hk)
  have HK := fun i hi => hide (kinds_at? (i := i) hk hi)
  obtain ⟨l, el⟩ : ∃ l, kinds ns k = l := ⟨_, rfl⟩
  simp only [el] at CV CB HL HK ⊢
  obtain ⟨kd, ek⟩ : ∃ kd, ns[k].kind = kd := ⟨_, rfl⟩
  rw [ek] at d0 ⊢
  obtain ⟨m, em⟩ : ∃ m, ns[k].kids.length = m := ⟨_, rfl⟩
  rw [em] at d5 hkl
  have EM := hide em
  clear hN hb1 hcell el ek em hpb
  by_cases h0 : kd = 1 ∨ kd = 2 ∨ kd = 16 ∨ kd = 17 ∨ kd = 18 ∨ kd = 19
  · have HF : Hid (kidsB kd l = decide (m = 0)) := by show _ = _; rw [kidsB, if_pos h0, HL.out, EM.out]
    by_cases hm : m = 0
    · subst hm
      rcases h0 with rfl | rfl | rfl | rfl | rfl | rfl
      all_goals
        go_enter Tryz.func104, Tryz.ntmps104
        go_wp2
        go_ret
        exact ⟨by rw [HF.out]; rfl, HB.out⟩
    · have hm' : ¬ (m : Int) = 0 := by omega
      rcases h0 with rfl | rfl | rfl | rfl | rfl | rfl
      all_goals
        go_enter Tryz.func104, Tryz.ntmps104
        go_wp2
        go_ret
        exact ⟨by rw [HF.out]; simp [hm], HB.out⟩
  by_cases h3 : kd = 3
  · subst h3
    have HF : Hid (kidsB 3 l = (decide (m = 2) && (l.take 2).all valueQ)) := by show _ = _; rw [kidsB, if_neg h0, if_pos rfl, HL.out, EM.out]
    clear h0
    by_cases hm : m = 2
    · subst hm
      have C := CV 2 (by rw [EM.out]; omega)
      clear CV CB CK HK
      obtain ⟨b, eb⟩ : ∃ b, (l.take 2).all valueQ = b := ⟨_, rfl⟩
      simp only [eb] at C HF
      clear eb
      go_enter Tryz.func104, Tryz.ntmps104
      go_wp2_with (go_at_call 115; refine (unhide (C _ HN.out)).mono ?_; rintro e w2 ⟨rfl, hb2⟩)
      go_ret
      exact ⟨by rw [HF.out]; rfl, HB.out.trans (hb2.mono HB.out.size)⟩
    · have hm' : ¬ (m : Int) = 2 := by omega
      clear CV CB CK HK
      go_enter Tryz.func104, Tryz.ntmps104
      go_wp2
      go_ret
      exact ⟨by rw [HF.out]; simp [hm], HB.out⟩
  by_cases h4 : kd = 4 ∨ kd = 5 ∨ kd = 11 ∨ kd = 14 ∨ kd = 15
  · have HF : Hid (kidsB kd l = (decide (m = 1) && (l.take 1).all valueQ)) := by show _ = _; rw [kidsB, if_neg h0, if_neg h3, if_pos h4, HL.out, EM.out]
    clear h0 h3
    by_cases hm : m = 1
    · subst hm
      have C := CV 1 (by rw [EM.out]; omega)
      clear CV CB CK HK
      obtain ⟨b, eb⟩ : ∃ b, (l.take 1).all valueQ = b := ⟨_, rfl⟩
      simp only [eb] at C HF
      clear eb
      rcases h4 with rfl | rfl | rfl | rfl | rfl
      all_goals
        go_enter Tryz.func104, Tryz.ntmps104
        go_wp2_with (go_at_call 115; refine (unhide (C _ HN.out)).mono ?_; rintro e w2 ⟨rfl, hb2⟩)
        go_ret
        exact ⟨by rw [HF.out]; rfl, HB.out.trans (hb2.mono HB.out.size)⟩
    · have hm' : ¬ (m : Int) = 1 := by omega
      clear CV CB CK HK
      rcases h4 with rfl | rfl | rfl | rfl | rfl
      all_goals
        go_enter Tryz.func104, Tryz.ntmps104
        go_wp2
        go_ret
        exact ⟨by rw [HF.out]; simp [hm], HB.out⟩
  by_cases h12 : kd = 12
  · subst h12
    have HF : Hid (kidsB 12 l = (decide (m = 2 ∨ m = 3) && (l.take 1).all valueQ && (l.drop 1).all blockQ)) := by show _ = _; rw [kidsB, if_neg h0, if_neg h3, if_neg h4, if_pos rfl, HL.out, EM.out]
    clear h0 h3 h4
    by_cases hm : m = 2 ∨ m = 3
    · have C1 := CV 1 (by rw [EM.out]; omega)
      have C2 := CB 1 (by rw [EM.out]; omega)
      clear CV CB CK HK
      obtain ⟨b1, eb1⟩ : ∃ b, (l.take 1).all valueQ = b := ⟨_, rfl⟩
      obtain ⟨b2, eb2⟩ : ∃ b, (l.drop 1).all blockQ = b := ⟨_, rfl⟩
      simp only [eb1, eb2] at C1 C2 HF
      clear eb1 eb2
      rcases hm with rfl | rfl
      all_goals
        cases b1
        all_goals
          go_enter Tryz.func104, Tryz.ntmps104
          go_wp2_with (first | (go_at_call 115; refine (unhide (C1 _ HN.out)).mono ?_; rintro e w2 ⟨rfl, hb2⟩; obtain ⟨g0, g1, g2, _⟩ := HX.out.stays hb2) | (go_at_call 116; refine (unhide (C2 _ (HN.out.stays hb2))).mono ?_; rintro e w3 ⟨rfl, hb3⟩))
          go_ret
          first
          | exact ⟨by rw [HF.out]; rfl, HB.out.trans ((hb2.trans (hb3.mono hb2.size)).mono HB.out.size)⟩
          | exact ⟨by rw [HF.out]; rfl, HB.out.trans (hb2.mono HB.out.size)⟩
    · have hm2 : ¬ (m : Int) = 2 := by omega
      have hm3 : ¬ (m : Int) = 3 := by omega
      clear CV CB CK HK
      go_enter Tryz.func104, Tryz.ntmps104
      go_wp2
      go_ret
      exact ⟨by rw [HF.out]; simp [hm], HB.out⟩
  by_cases h13 : kd = 13
  · subst h13
    have HF : Hid (kidsB 13 l = (decide (m = 2) && (l.take 1).all valueQ && (l.drop 1).all blockQ)) := by show _ = _; rw [kidsB, if_neg h0, if_neg h3, if_neg h4, if_neg h12, if_pos rfl, HL.out, EM.out]
    clear h0 h3 h4 h12
    by_cases hm : m = 2
    · have C1 := CV 1 (by rw [EM.out]; omega)
      have C2 := CB 1 (by rw [EM.out]; omega)
      clear CV CB CK HK
      obtain ⟨b1, eb1⟩ : ∃ b, (l.take 1).all valueQ = b := ⟨_, rfl⟩
      obtain ⟨b2, eb2⟩ : ∃ b, (l.drop 1).all blockQ = b := ⟨_, rfl⟩
      simp only [eb1, eb2] at C1 C2 HF
      clear eb1 eb2
      subst hm
      cases b1
      all_goals
        go_enter Tryz.func104, Tryz.ntmps104
        go_wp2_with (first | (go_at_call 115; refine (unhide (C1 _ HN.out)).mono ?_; rintro e w2 ⟨rfl, hb2⟩; obtain ⟨g0, g1, g2, _⟩ := HX.out.stays hb2) | (go_at_call 116; refine (unhide (C2 _ (HN.out.stays hb2))).mono ?_; rintro e w3 ⟨rfl, hb3⟩))
        go_ret
        first
        | exact ⟨by rw [HF.out]; rfl, HB.out.trans ((hb2.trans (hb3.mono hb2.size)).mono HB.out.size)⟩
        | exact ⟨by rw [HF.out]; rfl, HB.out.trans (hb2.mono HB.out.size)⟩
    · have hm2 : ¬ (m : Int) = 2 := by omega
      clear CV CB CK HK
      go_enter Tryz.func104, Tryz.ntmps104
      go_wp2
      go_ret
      exact ⟨by rw [HF.out]; simp [hm], HB.out⟩
  have HF : Hid (kidsB kd l = (l.all stmtQ && inZ 1 12 m)) := by show _ = _; rw [kidsB, if_neg h0, if_neg h3, if_neg h4, if_neg h12, if_neg h13, HL.out, EM.out]
  simp only [not_or] at h0 h4
  obtain ⟨n1, n2, n16, n17, n18, n19⟩ := h0
  obtain ⟨n4, n5, n11, n14, n15⟩ := h4
  clear CV CB
  go_enter Tryz.func104, Tryz.ntmps104
  go_wp2
  obtain ⟨W1, hW⟩ : ∃ W1, w.alloc (.cells #[.slice (some a) ns.length c, mv, pv] 33) = W1 := ⟨_, rfl⟩
  rw [hW] at HN HX HB ⊢
  have eb : ∀ y : Int, ¬ kd = y → (kd == y) = false := fun y h => by simp [h]
  simp only [eb _ n1, eb _ n2, eb _ n16, eb _ n17, eb _ n18, eb _ n19, eb _ n4, eb _ n5, eb _ n11, eb _ n14, eb _ n15, eb _ h3, eb _ h12, eb _ h13]
  clear eb
  clear d0 d5 hW n1 n2 n16 n17 n18 n19 n4 n5 n11 n14 n15 h3 h12 h13
  go_loopw [6] (StmtsR W1 l m) (fun iv _ => m - (intOf iv).toNat)
  case atStart => exact ⟨0, by omega, rfl, Below.refl _ _, fun j x hj => absurd hj (Nat.not_lt_zero j)⟩
  case round =>
    obtain ⟨i, hi, rfl, HB2, HA⟩ := hrel
    obtain ⟨c0, c1, c2, _⟩ := HX.out.stays HB2.out
    by_cases hlt : i < m
    · have hlt' : (i : Int) < (m : Int) := by omega
      have hik : i < ns[k].kids.length := by rw [EM.out]; exact hlt
      have C1 := CK i hik
      have C2 := fun x w => hide (l05Statement_any x w)
      have hx := HK i hik
      obtain ⟨x, ex⟩ : ∃ x, x = kidKind ns k ns[k].kids[i] := ⟨_, rfl⟩
      rw [← ex] at hx
      simp only [← ex] at C1
      clear ex CK HK
      have HN2 := hide (HN.out.stays HB2.out)
      cases hv : stmtQ x with
      | true =>
        have C2 := C2 x
        rw [hv] at C2
        go_wp2_with (first | (go_at_call 117; refine (unhide (C1 _ HN2.out)).mono ?_; rintro e w2 ⟨rfl, hb2⟩; have HB3 := hide hb2; clear hb2) | (go_at_call 103; refine (unhide (C2 _)).mono ?_; rintro e w3 ⟨rfl, rfl⟩))
        go_roundw
        case rel => exact ⟨i + 1, by omega, by go_num, HB2.out.trans (HB3.out.mono HB2.out.size), fun j y hj hy => by
          rcases Nat.lt_succ_iff_lt_or_eq.1 hj with hj | hj
          · exact HA.out j y hj hy
          · subst hj; rw [hx.out] at hy; cases hy; exact hv⟩
        case measure => simp [intOf]; omega
      | false =>
        have C2 := C2 x
        rw [hv] at C2
        go_wp2_with (first | (go_at_call 117; refine (unhide (C1 _ HN2.out)).mono ?_; rintro e w2 ⟨rfl, hb2⟩; have HB3 := hide hb2; clear hb2) | (go_at_call 103; refine (unhide (C2 _)).mono ?_; rintro e w3 ⟨rfl, rfl⟩))
        go_ret
        exact ⟨by rw [HF.out, all_no hx.out hv]; rfl, HB.out.trans ((HB2.out.trans (HB3.out.mono HB2.out.size)).mono HB.out.size)⟩
    · have hlt' : ¬ (i : Int) < (m : Int) := by omega
      have HA2 : Hid (l.all stmtQ = true) := all_yes (fun j x hx => HA.out j x (by have := (List.getElem?_eq_some_iff.1 hx).1; rw [HL.out, EM.out] at this; omega) hx)
      have C := fun w => hide (l01In_gen (m : Int) 1 12 w)
      go_wp2_with (go_at_call 31; refine (unhide (C _)).mono ?_; rintro e w3 ⟨rfl, rfl⟩)
      go_ret
      exact ⟨by rw [HF.out, HA2.out]; rfl, HB.out.trans (HB2.out.mono HB.out.size)⟩
end Go.Proofs.YtpdpmnkonkpheaaGreat

namespace Go.Proofs.YtpdpmnkonkpheaaGreat
open Go.RowKit

theorem IntsAt.more {w : World} {g : Nat} (hg : g = w.heap.size) (xs : List Int) (zs : Array Value) (t : TypeId) (n c : Nat) (hn : n = xs.length) : IntsAt (w.alloc (.cells ((xs.map I64).toArray ++ zs) t)) (.slice (some ⟨g, 0, none⟩) n c) xs := by
  subst hg hn
  refine ⟨_, c, rfl, fun j hj => ⟨_, rfl, by simp, ?_⟩⟩
  have e : (⟨w.heap.size, 0, none⟩ : Addr).add j = ⟨w.heap.size, j, none⟩ := by
    simp only [Addr.add]
    split
    · next h => subst h; rfl
    · simp
  rw [e, World.cell?_alloc_new]
  rw [Array.getElem?_append_left (by simpa using hj)]
  simp [hj, I64]
def ifKids (a b c : Int) : List Int := if c = -1 then [a, b] else [a, b, c]

set_option maxRecDepth 100000 in
set_option maxHeartbeats 1000000 in
theorem ifNode_node (a b c : Int) (w : World) :
    Calls Tryz.prog 150 #[.agg #[.int .i64 a, .int .i64 b, .int .i64 c]] w fun e w' => ∃ v, e = .returned v ∧ NodeV w' ⟨12, 0, ByteArray.empty, ByteArray.empty, ByteArray.empty, ifKids a b c⟩ v ∧ Below w.heap.size w w' := by
  by_cases hc : c = -1
  · have HK : Hid (ifKids a b c = [a, b]) := if_pos hc
    rw [HK.out]
    subst hc
    go_enter Tryz.func150, Tryz.ntmps150
    go_wp2
    go_returns
    exact ⟨_, rfl, ⟨_, rfl, IntsAt.made (by simp) [a, b] 3 2 2 rfl⟩, by go_grown⟩
  · have HK : Hid (ifKids a b c = [a, b, c]) := if_neg hc
    rw [HK.out]
    go_enter Tryz.func150, Tryz.ntmps150
    go_wp2
    go_returns
    exact ⟨_, rfl, ⟨_, rfl, (IntsAt.more (by simp) [a, b, c] _ 3 3 _ rfl).stays (Below.refl _ _).drew⟩, by go_grown⟩

set_option maxHeartbeats 1000000 in
theorem blockNode_node (v : Value) (ks : List Int) (w : World) (hK : IntsAt w v ks) (hl : ks.length ≤ 1048576) :
    Calls Tryz.prog 154 #[.agg #[v]] w fun e w' => ∃ v, e = .returned v ∧ NodeV w' ⟨20, 0, ByteArray.empty, ByteArray.empty, ByteArray.empty, ks⟩ v ∧ Below w.heap.size w w' := by
  have C := fun w h => hide (clone_any v ks w h hl)
  have HP : Hid (Box ((w.alloc (.cells #[v] 162)).alloc (.cells #[.int .i64 0, .int .i64 0, .string ⟨#[]⟩, .string ⟨#[]⟩, .string ⟨#[]⟩, .slice none 0 0] 73)) (w.heap.size + 1) #[.int .i64 0, .int .i64 0, .string ⟨#[]⟩, .string ⟨#[]⟩, .string ⟨#[]⟩, .slice none 0 0] 73) := Box.madeAt (by simp) _ _
  have HK : Hid (IntsAt ((w.alloc (.cells #[v] 162)).alloc (.cells #[.int .i64 0, .int .i64 0, .string ⟨#[]⟩, .string ⟨#[]⟩, .string ⟨#[]⟩, .slice none 0 0] 73)) v ks) := (hK.stays ((Below.refl _ _).alloc (Nat.le_refl _) _)).stays ((Below.refl _ _).alloc (Nat.le_refl _) _)
  have HB0 : Hid (Below w.heap.size w ((w.alloc (.cells #[v] 162)).alloc (.cells #[.int .i64 0, .int .i64 0, .string ⟨#[]⟩, .string ⟨#[]⟩, .string ⟨#[]⟩, .slice none 0 0] 73))) := by show Below _ _ _; go_grown
  obtain ⟨ao, c, rfl, _⟩ := hK
  clear hl
  go_enter Tryz.func154, Tryz.ntmps154
  go_wp2_with (go_at_call 155; refine (unhide (C _ HK.out)).mono ?_; rintro e w2 ⟨v2, rfl, hv2, hb2⟩; have HB := hide (HB0.out.trans (hb2.mono HB0.out.size)); have HW := hide hv2; obtain ⟨o2, c2, rfl, hr2, hc2⟩ := hv2; rw [List.length_map] at HW; have hlm : (ks.map I64).length = ks.length := List.length_map ..; have hp := HP.out.stays hb2; have HQ := hide hp; have f0 := Lib.cell_of_heap hp 0; have f1 := Lib.cell_of_heap hp 1; have f2 := Lib.cell_of_heap hp 2; have f3 := Lib.cell_of_heap hp 3; have f4 := Lib.cell_of_heap hp 4; have f5 := Lib.cell_of_heap hp 5; have z0 := Lib.frozen_of_heap hp 0; have z1 := Lib.frozen_of_heap hp 1; have z2 := Lib.frozen_of_heap hp 2; have z3 := Lib.frozen_of_heap hp 3; have z4 := Lib.frozen_of_heap hp 4; have z5 := Lib.frozen_of_heap hp 5; simp at f0 f1 f2 f3 f4 f5; clear hb2 hc2 hp hr2)
  refine box_ret (g := w.heap.size + 1) (cs := #[.int .i64 20, .int .i64 0, .string ⟨#[]⟩, .string ⟨#[]⟩, .string ⟨#[]⟩, .slice o2 ks.length c2]) rfl rfl (by simpa using (((((HQ.out.set 0 _).set 1 _).set 2 _).set 3 _).set 4 _).set 5 _) _ Tryz.underlying73 rfl (by kernel_rfl) rfl ?_
  refine ⟨_, rfl, ⟨_, rfl, ?_⟩, ?_⟩
  · refine IntsIn.at (base := w.heap.size + 2) ?_
    iterate 6 refine CellsIn.kept ?_ (KeptFrom.setCell (by omega) _ _ _)
    have := HW.out.mono (base' := w.heap.size + 2) (by simp)
    simpa using this
  · exact (((((HB.out.setCell (by simp) _).setCell (by simp) _).setCell (by simp) _).setCell (by simp) _).setCell (by simp) _).setCell (by simp) _
end Go.Proofs.YtpdpmnkonkpheaaGreat

namespace Go.Proofs.YtpdpmnkonkpheaaGreat
open Go.RowKit

/-- Are two nodes the same? -/
def sameB (x y : Nd) : Bool := decide (x.kind = y.kind) && decide (x.num = y.num) && (x.name.toList == y.name.toList) && (x.more.toList == y.more.toList) && (x.into.toList == y.into.toList) && decide (x.kids = y.kids)

set_option maxRecDepth 100000 in
set_option maxHeartbeats 2000000 in
theorem same_any (x y : Nd) (kv kv' : Value) (w : World) (hk1 : IntsAt w kv x.kids) (hk2 : IntsAt w kv' y.kids) (hl1 : x.kids.length ≤ 1048576) (hl2 : y.kids.length ≤ 1048576) :
    Calls Tryz.prog 106 #[.agg #[.int .i64 x.kind, .int .i64 x.num, .string x.name, .string x.more, .string x.into, kv], .agg #[.int .i64 y.kind, .int .i64 y.num, .string y.name, .string y.more, .string y.into, kv']] w
      fun e w' => e = .returned (.bool (sameB x y)) ∧ Below w.heap.size w w' := by
  have C := fun w h1 h2 => hide (equal_any kv kv' x.kids y.kids w h1 h2 hl1 hl2)
  have HB : Hid (Below w.heap.size w ((w.alloc (.cells #[.int .i64 x.kind, .int .i64 x.num, .string x.name, .string x.more, .string x.into, kv] 73)).alloc (.cells #[.int .i64 y.kind, .int .i64 y.num, .string y.name, .string y.more, .string y.into, kv'] 73))) := by
    show Below _ _ _; go_grown
  have HK1 : Hid (IntsAt ((w.alloc (.cells #[.int .i64 x.kind, .int .i64 x.num, .string x.name, .string x.more, .string x.into, kv] 73)).alloc (.cells #[.int .i64 y.kind, .int .i64 y.num, .string y.name, .string y.more, .string y.into, kv'] 73)) kv x.kids) := hk1.stays HB.out
  have HK2 : Hid (IntsAt ((w.alloc (.cells #[.int .i64 x.kind, .int .i64 x.num, .string x.name, .string x.more, .string x.into, kv] 73)).alloc (.cells #[.int .i64 y.kind, .int .i64 y.num, .string y.name, .string y.more, .string y.into, kv'] 73)) kv' y.kids) := hk2.stays HB.out
  obtain ⟨ao, c, rfl, _⟩ := hk1
  obtain ⟨bo, d, rfl, _⟩ := hk2
  obtain ⟨n, en⟩ : ∃ n, x.kids.length = n := ⟨_, rfl⟩
  obtain ⟨m, em⟩ : ∃ m, y.kids.length = m := ⟨_, rfl⟩
  obtain ⟨q, eq⟩ : ∃ q, decide (x.kids = y.kids) = q := ⟨_, rfl⟩
  obtain ⟨s, es⟩ : ∃ s, sameB x y = s := ⟨_, rfl⟩
  have HS : Hid (sameB x y = s) := es
  rw [es]
  rw [sameB, eq] at es
  obtain ⟨a0, a1, a2, a3, a4, a5⟩ := x
  obtain ⟨b0, b1, b2, b3, b4, b5⟩ := y
  dsimp only at *
  rw [en, em] at C HB HK1 HK2 ⊢
  rw [eq] at C
  clear en em eq hl1 hl2 HS
  by_cases h0 : a0 = b0
  · subst h0
    by_cases h1 : a1 = b1
    · subst h1
      cases h2 : (a2.toList == b2.toList) with
      | false => 
        have HF : Hid (s = false) := by rw [← es, h2]; show _ = _; simp
        clear es
        (
  go_enter Tryz.func106, Tryz.ntmps106;
  go_wp2_with (go_at_call 118; refine (unhide (C _ HK1.out HK2.out)).mono ?_; rintro e w2 ⟨rfl, hb2⟩; have HB := hide (HB.out.trans (hb2.mono HB.out.size)); clear hb2);
  go_ret;
  exact ⟨by rw [HF.out]; rfl, HB.out⟩)
      | true =>
        cases h3 : (a3.toList == b3.toList) with
        | false => 
          have HF : Hid (s = false) := by rw [← es, h3]; show _ = _; simp
          clear es
          (
  go_enter Tryz.func106, Tryz.ntmps106;
  go_wp2_with (go_at_call 118; refine (unhide (C _ HK1.out HK2.out)).mono ?_; rintro e w2 ⟨rfl, hb2⟩; have HB := hide (HB.out.trans (hb2.mono HB.out.size)); clear hb2);
  go_ret;
  exact ⟨by rw [HF.out]; rfl, HB.out⟩)
        | true =>
          cases h4 : (a4.toList == b4.toList) with
          | false => 
            have HF : Hid (s = false) := by rw [← es, h4]; show _ = _; simp
            clear es
            (
  go_enter Tryz.func106, Tryz.ntmps106;
  go_wp2_with (go_at_call 118; refine (unhide (C _ HK1.out HK2.out)).mono ?_; rintro e w2 ⟨rfl, hb2⟩; have HB := hide (HB.out.trans (hb2.mono HB.out.size)); clear hb2);
  go_ret;
  exact ⟨by rw [HF.out]; rfl, HB.out⟩)
          | true =>
            have HF : Hid (s = q) := by rw [← es, h2, h3, h4]; show _ = _; simp
            clear es
            (
  go_enter Tryz.func106, Tryz.ntmps106;
  go_wp2_with (go_at_call 118; refine (unhide (C _ HK1.out HK2.out)).mono ?_; rintro e w2 ⟨rfl, hb2⟩; have HB := hide (HB.out.trans (hb2.mono HB.out.size)); clear hb2);
  go_ret;
  exact ⟨by rw [HF.out]; rfl, HB.out⟩)
    · have HF : Hid (s = false) := by rw [← es]; show _ = _; simp [h1]
      clear es
      (
  go_enter Tryz.func106, Tryz.ntmps106;
  go_wp2_with (go_at_call 118; refine (unhide (C _ HK1.out HK2.out)).mono ?_; rintro e w2 ⟨rfl, hb2⟩; have HB := hide (HB.out.trans (hb2.mono HB.out.size)); clear hb2);
  go_ret;
  exact ⟨by rw [HF.out]; rfl, HB.out⟩)
  · have HF : Hid (s = false) := by rw [← es]; show _ = _; simp [h0]
    clear es
    (
  go_enter Tryz.func106, Tryz.ntmps106;
  go_wp2_with (go_at_call 118; refine (unhide (C _ HK1.out HK2.out)).mono ?_; rintro e w2 ⟨rfl, hb2⟩; have HB := hide (HB.out.trans (hb2.mono HB.out.size)); clear hb2);
  go_ret;
  exact ⟨by rw [HF.out]; rfl, HB.out⟩)
end Go.Proofs.YtpdpmnkonkpheaaGreat

namespace Go.Proofs.YtpdpmnkonkpheaaGreat
open Go.RowKit

/-- Kids that are places ahead, no two the same, no more than a node wants. -/
def AheadP (ks : List Int) (k : Int) : Prop := ks.length ≤ 12 ∧ (∀ x ∈ ks, 0 ≤ x ∧ x < k) ∧ ks.Nodup
instance (ks : List Int) (k : Int) : Decidable (AheadP ks k) := by unfold AheadP; infer_instance
def aheadB (ks : List Int) (k : Int) : Bool := decide (AheadP ks k)

def AheadR (W : World) (ks : List Int) (k : Int) (iv : Value) (wr : World) : Prop :=
  ∃ i : Nat, i ≤ ks.length ∧ iv = .int .i64 i ∧ wr = W ∧ Hid ((∀ x ∈ ks.take i, 0 ≤ x ∧ x < k) ∧ (ks.take i).Nodup)

theorem IntsAt.take {w : World} {a : Addr} {c : Nat} {ks : List Int} (h : IntsAt w (.slice (some a) ks.length c) ks) (i : Nat) (hi : i ≤ ks.length) : IntsAt w (.slice (some a) i c) (ks.take i) := by
  obtain ⟨ao, c', e, hc⟩ := h
  injection e with e1 e2 e3
  subst e1 e3
  refine ⟨some a, c, by rw [List.length_take, Nat.min_eq_left hi], fun j hj => ?_⟩
  rw [List.length_take] at hj
  obtain ⟨a', e, h1, h2⟩ := hc j (by omega)
  exact ⟨a', e, h1, by rw [List.getElem_take]; exact h2⟩

set_option maxRecDepth 100000 in
set_option maxHeartbeats 2000000 in
theorem kidsAhead_any (kd nu : Int) (nm mo it : ByteArray) (kv : Value) (ks : List Int) (k : Int) (w : World) (hK : IntsAt w kv ks) (hr : Room kv) :
    Calls Tryz.prog 107 #[.agg #[.int .i64 kd, .int .i64 nu, .string nm, .string mo, .string it, kv], .int .i64 k] w fun e w' => e = .returned (.bool (aheadB ks k)) ∧ Below w.heap.size w w' := by
  have hb : Below w.heap.size w (w.alloc (.cells #[.int .i64 kd, .int .i64 nu, .string nm, .string mo, .string it, kv] 73)) := (Below.refl _ _).alloc (Nat.le_refl _) _
  have hx := hide (NdBox.made w kd nu nm mo it kv 73)
  have HK := hide (hK.stays hb)
  have HB := hide hb
  clear hb
  obtain ⟨ao, c, rfl, _⟩ := hK
  have hr2 : ks.length ≤ c := hr
  obtain ⟨n, en⟩ : ∃ n, ks.length = n := ⟨_, rfl⟩
  have EN := hide en
  rw [en] at HK HB hx hr2 ⊢
  clear en hr
  by_cases h12 : n ≤ 12
  · have h12' : ¬ (12 : Int) < (n : Int) := by omega
    go_enter Tryz.func107, Tryz.ntmps107
    go_wp2
    obtain ⟨W, hW⟩ : ∃ W, w.alloc (.cells #[.int .i64 kd, .int .i64 nu, .string nm, .string mo, .string it, .slice ao n c] 73) = W := ⟨_, rfl⟩
    rw [hW] at HK HB hx ⊢
    clear hW
    go_loopw [14] (AheadR W ks k) (fun iv _ => n - (intOf iv).toNat)
    case atStart => exact ⟨0, by omega, rfl, rfl, by simp, by simp⟩
    case round =>
      obtain ⟨i, hi, rfl, rfl, HA⟩ := hrel
      rw [EN.out] at hi
      obtain ⟨c0, c1, c2, c3, c4, c5, _⟩ := hx.out
      by_cases hlt : i < n
      · have hlt' : (i : Int) < (n : Int) := by omega
        have hi0 : (0 : Int) ≤ (i : Int) := by omega
        have hic : (i : Int) ≤ (c : Int) := by omega
        have hix : i < ks.length := by rw [EN.out]; exact hlt
        obtain ⟨ao', c', e1, hc1⟩ := HK.out
        injection e1 with e2 e3 e4
        subst e2
        obtain ⟨a, rfl, _, hxx⟩ := hc1 i hix
        have HT : Hid (IntsAt wr (.slice (some a) i c) (ks.take i)) := IntsAt.take (by have := HK.out; rwa [← EN.out] at this) i (by omega)
        have hl12 : (ks.take i).length ≤ 1048576 := by rw [List.length_take]; omega
        have C := fun w h => hide (contains_any (.slice (some a) i c) (ks.take i) ks[i] w h hl12)
        have HX : Hid (ks.take (i + 1) = ks.take i ++ [ks[i]]) := List.take_succ_eq_append_getElem hix
        have HM : Hid (ks[i] ∈ ks) := List.getElem_mem hix
        have HD : Hid (ks[i] ∈ ks.take i → ¬ ks.Nodup) := fun h1 h2 => by
          obtain ⟨j, hj, e⟩ := List.mem_take_iff_getElem.1 h1
          have := List.pairwise_iff_getElem.1 h2 j i (by omega) hix (by omega)
          exact this e
        obtain ⟨x, ex⟩ : ∃ x, ks[i] = x := ⟨_, rfl⟩
        rw [ex] at hxx C HX HM HD
        clear ex hc1 e3 e4 hl12
        by_cases hx0 : x < 0
        · have HF : Hid (aheadB ks k = false) := by
            show _ = _
            rw [aheadB, decide_eq_false_iff_not]
            exact fun h => absurd (h.2.1 x HM.out).1 (by omega)
          (go_wp2_with (go_at_call 119; refine (unhide (C _ HT.out)).mono ?_; rintro e w2 ⟨rfl, rfl⟩))
          go_ret
          exact ⟨by rw [HF.out]; rfl, HB.out⟩
        · by_cases hxk : k ≤ x
          · have HF : Hid (aheadB ks k = false) := by
              show _ = _
              rw [aheadB, decide_eq_false_iff_not]
              exact fun h => absurd (h.2.1 x HM.out).2 (by omega)
            (go_wp2_with (go_at_call 119; refine (unhide (C _ HT.out)).mono ?_; rintro e w2 ⟨rfl, rfl⟩))
            go_ret
            exact ⟨by rw [HF.out]; rfl, HB.out⟩
          · by_cases hin : x ∈ ks.take i
            · have HF : Hid (aheadB ks k = false) := by
                show _ = _
                rw [aheadB, decide_eq_false_iff_not]
                exact fun h => HD.out hin h.2.2
              have e : decide (x ∈ ks.take i) = true := decide_eq_true hin
              rw [e] at C
              clear hin e
              (go_wp2_with (go_at_call 119; refine (unhide (C _ HT.out)).mono ?_; rintro e w2 ⟨rfl, rfl⟩))
              go_ret
              exact ⟨by rw [HF.out]; rfl, HB.out⟩
            · have e : decide (x ∈ ks.take i) = false := decide_eq_false hin
              have HIN := hide hin
              rw [e] at C
              clear hin e
              (go_wp2_with (go_at_call 119; refine (unhide (C _ HT.out)).mono ?_; rintro e w2 ⟨rfl, rfl⟩))
              go_roundw
              case rel => exact ⟨i + 1, by rw [EN.out]; omega, by go_num, rfl, by
                rw [HX.out]
                obtain ⟨h1, h2⟩ := HA.out
                refine ⟨fun y hy => ?_, List.nodup_append.2 ⟨h2, by simp, fun a ha b hb => ?_⟩⟩
                · rcases List.mem_append.1 hy with hy | hy
                  · exact h1 y hy
                  · simp at hy; subst hy; omega
                · simp at hb; subst hb; exact fun e => HIN.out (e ▸ ha)⟩
              case measure => simp [intOf]; omega
      · have hlt' : ¬ (i : Int) < (n : Int) := by omega
        have HF : Hid (aheadB ks k = true) := by
          show _ = _
          have h := HA.out
          rw [List.take_of_length_le (by rw [EN.out]; omega)] at h
          rw [aheadB, decide_eq_true_eq]
          exact ⟨by rw [EN.out]; exact h12, h.1, h.2⟩
        go_wp2
        go_ret
        exact ⟨by rw [HF.out]; rfl, HB.out⟩
  · have h12' : (12 : Int) < (n : Int) := by omega
    have HF : Hid (aheadB ks k = false) := by
      show _ = _
      rw [aheadB, decide_eq_false_iff_not]
      exact fun h => h12 (by rw [← EN.out]; exact h.1)
    go_enter Tryz.func107, Tryz.ntmps107
    go_wp2
    go_ret
    exact ⟨by rw [HF.out]; rfl, HB.out⟩
end Go.Proofs.YtpdpmnkonkpheaaGreat

namespace Go.Proofs.YtpdpmnkonkpheaaGreat
open Go.RowKit

def noIface : TypeDesc → Bool
  | .interface _ => false
  | _ => true
theorem run_assert_on {P : Program} (w : World) (t xT : TypeId) (v : Value) (d : TypeDesc) (hu : P.underlying t = some d) (hd : noIface d = true) : (Instr.typeAssert (.iface t v) xT t true).run P w = .ok (.tuple #[v, .bool true]) w := by
  unfold Instr.typeAssert
  simp only [Sem.run_bind, run_underlying hu]
  cases d <;> simp_all [noIface]
theorem run_zero {P : Program} (w : World) (t : TypeId) (z : Value) (hz : (P.info? t).map (·.zero) = some (some z)) : (zeroValue t).run P w = .ok z w := by
  cases hq : P.info? t with
  | none => simp [hq] at hz
  | some i =>
    have hs : i.zero = some z := by simpa [hq] using hz
    simp [zeroValue, typeInfo, hq, hs]
theorem run_assert_off {P : Program} (w : World) (t a xT : TypeId) (v z : Value) (d : TypeDesc) (ht : t ≠ a) (hu : P.underlying a = some d) (hd : noIface d = true) (hz : (P.info? a).map (·.zero) = some (some z)) : (Instr.typeAssert (.iface t v) xT a true).run P w = .ok (.tuple #[z, .bool false]) w := by
  unfold Instr.typeAssert
  simp only [Sem.run_bind, run_underlying hu]
  have := run_zero (P := P) w a z hz
  cases d <;> simp_all [noIface]
theorem run_assert_nil {P : Program} (w : World) (a xT : TypeId) (z : Value) (d : TypeDesc) (hu : P.underlying a = some d) (hd : noIface d = true) (hz : (P.info? a).map (·.zero) = some (some z)) : (Instr.typeAssert .nilIface xT a true).run P w = .ok (.tuple #[z, .bool false]) w := by
  unfold Instr.typeAssert
  simp only [Sem.run_bind, run_underlying hu]
  have := run_zero (P := P) w a z hz
  cases d <;> simp_all [noIface]
theorem on_numNode (v : Value) (w : World) : (Instr.typeAssert (.iface 147 v) 114 147 true).run Tryz.prog w = .ok (.tuple #[v, .bool true]) w := run_assert_on w _ _ v _ Tryz.underlying147 rfl
theorem off_numNode (t : TypeId) (v : Value) (w : World) (ht : t ≠ 147) : (Instr.typeAssert (.iface t v) 114 147 true).run Tryz.prog w = .ok (.tuple #[.agg #[.int .i64 0], .bool false]) w := run_assert_off w _ _ _ v _ _ ht Tryz.underlying147 rfl (by kernel_rfl)
theorem nil_numNode (w : World) : (Instr.typeAssert .nilIface 114 147 true).run Tryz.prog w = .ok (.tuple #[.agg #[.int .i64 0], .bool false]) w := run_assert_nil w _ _ _ _ Tryz.underlying147 rfl (by kernel_rfl)
theorem on_varNode (v : Value) (w : World) : (Instr.typeAssert (.iface 137 v) 114 137 true).run Tryz.prog w = .ok (.tuple #[v, .bool true]) w := run_assert_on w _ _ v _ Tryz.underlying137 rfl
theorem off_varNode (t : TypeId) (v : Value) (w : World) (ht : t ≠ 137) : (Instr.typeAssert (.iface t v) 114 137 true).run Tryz.prog w = .ok (.tuple #[.agg #[.string ⟨#[]⟩], .bool false]) w := run_assert_off w _ _ _ v _ _ ht Tryz.underlying137 rfl (by kernel_rfl)
theorem nil_varNode (w : World) : (Instr.typeAssert .nilIface 114 137 true).run Tryz.prog w = .ok (.tuple #[.agg #[.string ⟨#[]⟩], .bool false]) w := run_assert_nil w _ _ _ _ Tryz.underlying137 rfl (by kernel_rfl)
theorem on_calcNode (v : Value) (w : World) : (Instr.typeAssert (.iface 150 v) 114 150 true).run Tryz.prog w = .ok (.tuple #[v, .bool true]) w := run_assert_on w _ _ v _ Tryz.underlying150 rfl
theorem off_calcNode (t : TypeId) (v : Value) (w : World) (ht : t ≠ 150) : (Instr.typeAssert (.iface t v) 114 150 true).run Tryz.prog w = .ok (.tuple #[.agg #[.int .i64 0, .int .i64 0, .int .i64 0], .bool false]) w := run_assert_off w _ _ _ v _ _ ht Tryz.underlying150 rfl (by kernel_rfl)
theorem nil_calcNode (w : World) : (Instr.typeAssert .nilIface 114 150 true).run Tryz.prog w = .ok (.tuple #[.agg #[.int .i64 0, .int .i64 0, .int .i64 0], .bool false]) w := run_assert_nil w _ _ _ _ Tryz.underlying150 rfl (by kernel_rfl)
theorem on_notNode (v : Value) (w : World) : (Instr.typeAssert (.iface 152 v) 114 152 true).run Tryz.prog w = .ok (.tuple #[v, .bool true]) w := run_assert_on w _ _ v _ Tryz.underlying152 rfl
theorem off_notNode (t : TypeId) (v : Value) (w : World) (ht : t ≠ 152) : (Instr.typeAssert (.iface t v) 114 152 true).run Tryz.prog w = .ok (.tuple #[.agg #[.int .i64 0], .bool false]) w := run_assert_off w _ _ _ v _ _ ht Tryz.underlying152 rfl (by kernel_rfl)
theorem nil_notNode (w : World) : (Instr.typeAssert .nilIface 114 152 true).run Tryz.prog w = .ok (.tuple #[.agg #[.int .i64 0], .bool false]) w := run_assert_nil w _ _ _ _ Tryz.underlying152 rfl (by kernel_rfl)
theorem on_negNode (v : Value) (w : World) : (Instr.typeAssert (.iface 153 v) 114 153 true).run Tryz.prog w = .ok (.tuple #[v, .bool true]) w := run_assert_on w _ _ v _ Tryz.underlying153 rfl
theorem off_negNode (t : TypeId) (v : Value) (w : World) (ht : t ≠ 153) : (Instr.typeAssert (.iface t v) 114 153 true).run Tryz.prog w = .ok (.tuple #[.agg #[.int .i64 0], .bool false]) w := run_assert_off w _ _ _ v _ _ ht Tryz.underlying153 rfl (by kernel_rfl)
theorem nil_negNode (w : World) : (Instr.typeAssert .nilIface 114 153 true).run Tryz.prog w = .ok (.tuple #[.agg #[.int .i64 0], .bool false]) w := run_assert_nil w _ _ _ _ Tryz.underlying153 rfl (by kernel_rfl)
theorem on_setNode (v : Value) (w : World) : (Instr.typeAssert (.iface 140 v) 114 140 true).run Tryz.prog w = .ok (.tuple #[v, .bool true]) w := run_assert_on w _ _ v _ Tryz.underlying140 rfl
theorem off_setNode (t : TypeId) (v : Value) (w : World) (ht : t ≠ 140) : (Instr.typeAssert (.iface t v) 114 140 true).run Tryz.prog w = .ok (.tuple #[.agg #[.string ⟨#[]⟩, .int .i64 0], .bool false]) w := run_assert_off w _ _ _ v _ _ ht Tryz.underlying140 rfl (by kernel_rfl)
theorem nil_setNode (w : World) : (Instr.typeAssert .nilIface 114 140 true).run Tryz.prog w = .ok (.tuple #[.agg #[.string ⟨#[]⟩, .int .i64 0], .bool false]) w := run_assert_nil w _ _ _ _ Tryz.underlying140 rfl (by kernel_rfl)
theorem on_ifNode (v : Value) (w : World) : (Instr.typeAssert (.iface 155 v) 114 155 true).run Tryz.prog w = .ok (.tuple #[v, .bool true]) w := run_assert_on w _ _ v _ Tryz.underlying155 rfl
theorem off_ifNode (t : TypeId) (v : Value) (w : World) (ht : t ≠ 155) : (Instr.typeAssert (.iface t v) 114 155 true).run Tryz.prog w = .ok (.tuple #[.agg #[.int .i64 0, .int .i64 0, .int .i64 0], .bool false]) w := run_assert_off w _ _ _ v _ _ ht Tryz.underlying155 rfl (by kernel_rfl)
theorem nil_ifNode (w : World) : (Instr.typeAssert .nilIface 114 155 true).run Tryz.prog w = .ok (.tuple #[.agg #[.int .i64 0, .int .i64 0, .int .i64 0], .bool false]) w := run_assert_nil w _ _ _ _ Tryz.underlying155 rfl (by kernel_rfl)
theorem on_whileNode (v : Value) (w : World) : (Instr.typeAssert (.iface 157 v) 114 157 true).run Tryz.prog w = .ok (.tuple #[v, .bool true]) w := run_assert_on w _ _ v _ Tryz.underlying157 rfl
theorem off_whileNode (t : TypeId) (v : Value) (w : World) (ht : t ≠ 157) : (Instr.typeAssert (.iface t v) 114 157 true).run Tryz.prog w = .ok (.tuple #[.agg #[.int .i64 0, .int .i64 0], .bool false]) w := run_assert_off w _ _ _ v _ _ ht Tryz.underlying157 rfl (by kernel_rfl)
theorem nil_whileNode (w : World) : (Instr.typeAssert .nilIface 114 157 true).run Tryz.prog w = .ok (.tuple #[.agg #[.int .i64 0, .int .i64 0], .bool false]) w := run_assert_nil w _ _ _ _ Tryz.underlying157 rfl (by kernel_rfl)
theorem on_callNode (v : Value) (w : World) : (Instr.typeAssert (.iface 118 v) 114 118 true).run Tryz.prog w = .ok (.tuple #[v, .bool true]) w := run_assert_on w _ _ v _ Tryz.underlying118 rfl
theorem off_callNode (t : TypeId) (v : Value) (w : World) (ht : t ≠ 118) : (Instr.typeAssert (.iface t v) 114 118 true).run Tryz.prog w = .ok (.tuple #[.agg #[.string ⟨#[]⟩, .string ⟨#[]⟩, .string ⟨#[]⟩, .int .i64 0], .bool false]) w := run_assert_off w _ _ _ v _ _ ht Tryz.underlying118 rfl (by kernel_rfl)
theorem nil_callNode (w : World) : (Instr.typeAssert .nilIface 114 118 true).run Tryz.prog w = .ok (.tuple #[.agg #[.string ⟨#[]⟩, .string ⟨#[]⟩, .string ⟨#[]⟩, .int .i64 0], .bool false]) w := run_assert_nil w _ _ _ _ Tryz.underlying118 rfl (by kernel_rfl)
theorem on_printNode (v : Value) (w : World) : (Instr.typeAssert (.iface 159 v) 114 159 true).run Tryz.prog w = .ok (.tuple #[v, .bool true]) w := run_assert_on w _ _ v _ Tryz.underlying159 rfl
theorem off_printNode (t : TypeId) (v : Value) (w : World) (ht : t ≠ 159) : (Instr.typeAssert (.iface t v) 114 159 true).run Tryz.prog w = .ok (.tuple #[.agg #[.int .i64 0], .bool false]) w := run_assert_off w _ _ _ v _ _ ht Tryz.underlying159 rfl (by kernel_rfl)
theorem nil_printNode (w : World) : (Instr.typeAssert .nilIface 114 159 true).run Tryz.prog w = .ok (.tuple #[.agg #[.int .i64 0], .bool false]) w := run_assert_nil w _ _ _ _ Tryz.underlying159 rfl (by kernel_rfl)
theorem on_readNode (v : Value) (w : World) : (Instr.typeAssert (.iface 141 v) 114 141 true).run Tryz.prog w = .ok (.tuple #[v, .bool true]) w := run_assert_on w _ _ v _ Tryz.underlying141 rfl
theorem off_readNode (t : TypeId) (v : Value) (w : World) (ht : t ≠ 141) : (Instr.typeAssert (.iface t v) 114 141 true).run Tryz.prog w = .ok (.tuple #[.agg #[.string ⟨#[]⟩], .bool false]) w := run_assert_off w _ _ _ v _ _ ht Tryz.underlying141 rfl (by kernel_rfl)
theorem nil_readNode (w : World) : (Instr.typeAssert .nilIface 114 141 true).run Tryz.prog w = .ok (.tuple #[.agg #[.string ⟨#[]⟩], .bool false]) w := run_assert_nil w _ _ _ _ Tryz.underlying141 rfl (by kernel_rfl)
theorem on_delayNode (v : Value) (w : World) : (Instr.typeAssert (.iface 144 v) 114 144 true).run Tryz.prog w = .ok (.tuple #[v, .bool true]) w := run_assert_on w _ _ v _ Tryz.underlying144 rfl
theorem off_delayNode (t : TypeId) (v : Value) (w : World) (ht : t ≠ 144) : (Instr.typeAssert (.iface t v) 114 144 true).run Tryz.prog w = .ok (.tuple #[.agg #[.string ⟨#[]⟩], .bool false]) w := run_assert_off w _ _ _ v _ _ ht Tryz.underlying144 rfl (by kernel_rfl)
theorem nil_delayNode (w : World) : (Instr.typeAssert .nilIface 114 144 true).run Tryz.prog w = .ok (.tuple #[.agg #[.string ⟨#[]⟩], .bool false]) w := run_assert_nil w _ _ _ _ Tryz.underlying144 rfl (by kernel_rfl)
theorem on_contNode (v : Value) (w : World) : (Instr.typeAssert (.iface 145 v) 114 145 true).run Tryz.prog w = .ok (.tuple #[v, .bool true]) w := run_assert_on w _ _ v _ Tryz.underlying145 rfl
theorem off_contNode (t : TypeId) (v : Value) (w : World) (ht : t ≠ 145) : (Instr.typeAssert (.iface t v) 114 145 true).run Tryz.prog w = .ok (.tuple #[.agg #[.string ⟨#[]⟩], .bool false]) w := run_assert_off w _ _ _ v _ _ ht Tryz.underlying145 rfl (by kernel_rfl)
theorem nil_contNode (w : World) : (Instr.typeAssert .nilIface 114 145 true).run Tryz.prog w = .ok (.tuple #[.agg #[.string ⟨#[]⟩], .bool false]) w := run_assert_nil w _ _ _ _ Tryz.underlying145 rfl (by kernel_rfl)
theorem on_skipNode (v : Value) (w : World) : (Instr.typeAssert (.iface 160 v) 114 160 true).run Tryz.prog w = .ok (.tuple #[v, .bool true]) w := run_assert_on w _ _ v _ Tryz.underlying160 rfl
theorem off_skipNode (t : TypeId) (v : Value) (w : World) (ht : t ≠ 160) : (Instr.typeAssert (.iface t v) 114 160 true).run Tryz.prog w = .ok (.tuple #[.agg #[], .bool false]) w := run_assert_off w _ _ _ v _ _ ht Tryz.underlying160 rfl (by kernel_rfl)
theorem nil_skipNode (w : World) : (Instr.typeAssert .nilIface 114 160 true).run Tryz.prog w = .ok (.tuple #[.agg #[], .bool false]) w := run_assert_nil w _ _ _ _ Tryz.underlying160 rfl (by kernel_rfl)
theorem on_blockNode (v : Value) (w : World) : (Instr.typeAssert (.iface 162 v) 114 162 true).run Tryz.prog w = .ok (.tuple #[v, .bool true]) w := run_assert_on w _ _ v _ Tryz.underlying162 rfl
theorem off_blockNode (t : TypeId) (v : Value) (w : World) (ht : t ≠ 162) : (Instr.typeAssert (.iface t v) 114 162 true).run Tryz.prog w = .ok (.tuple #[.agg #[.slice none 0 0], .bool false]) w := run_assert_off w _ _ _ v _ _ ht Tryz.underlying162 rfl (by kernel_rfl)
theorem nil_blockNode (w : World) : (Instr.typeAssert .nilIface 114 162 true).run Tryz.prog w = .ok (.tuple #[.agg #[.slice none 0 0], .bool false]) w := run_assert_nil w _ _ _ _ Tryz.underlying162 rfl (by kernel_rfl)
end Go.Proofs.YtpdpmnkonkpheaaGreat
