/-
  A gate that comes in; a new gate by the specification.
-/
import Derived.Test.YtbikdpljhnhcaaaFlatP
import Derived.Test.YtbikdpljhnhcaaaCopG
import Derived.Deep.CutRange
import Derived.Deep.RegionLaw
import Derived.Test.YtbikdpljhnhcaaaRepI
namespace Go.Proofs.Ytbikdpljhnhcaaa
open Go.RowKit
open Go.ChangeShapes Go.WideShapes Go.ChangeAt Go.Deep

def neg1 : Value := .int .i64 (-1)
/-- While a gate is made. -/
structure GnZ (w : World) (r : Value) (k : Nat) (z : World) : Prop where
  bR : ∃ a b c, Box z w.heap.size #[a, b, c] 26
  bO : Box z (w.heap.size + 1) #[.int .i64 (-1), .slice none 0 0, r] 26
  own : z.ownsRow (w.heap.size + 2) 3 1 r (List.replicate k neg1).length (List.replicate k neg1)
  bel : Below w.heap.size w z
theorem GnZ.stays {w : World} {r : Value} {k : Nat} {z z' : World} (h : GnZ w r k z) (hb : Below z.heap.size z z') : GnZ w r k z' :=
  ⟨by obtain ⟨a, b, c, hr⟩ := h.bR; exact ⟨a, b, c, hr.stays hb⟩, h.bO.stays hb, owns_eq h.own fun g hg => hb.block g (h.own.lt g hg).2, h.bel.trans (hb.mono h.bel.size)⟩
theorem set_thd (a b c v : Value) : (#[a, b, c] : Array Value).setIfInBounds 2 v = #[a, b, v] := rfl
theorem GnZ.more {w : World} {r : Value} {k : Nat} {W w' : World} {v' : Value} (h : GnZ w r k W) (hm : MoreR (w.heap.size + 2) 3 W r (List.replicate k neg1) (.int .i64 (-1)) v' w') :
    GnZ w v' (k + 1) (w'.setCell ⟨w.heap.size + 1, 2, none⟩ v') := by
  have hO := box_more hm h.own h.bO (by decide)
  refine ⟨?_, ?_, ?_, (h.bel.trans (hm.bel.mono (by omega))).setCell (p := ⟨w.heap.size + 1, 2, none⟩) (by show w.heap.size ≤ w.heap.size + 1; omega) _⟩
  · obtain ⟨a, b, c, hr⟩ := h.bR
    exact ⟨a, b, c, (box_more hm h.own hr (by decide)).other _ _ (by show w.heap.size ≠ w.heap.size + 1; omega)⟩
  · have := hO.set 2 v'
    rw [set_thd] at this
    exact this
  · have h1 := hm.own
    rw [show (List.replicate k neg1 ++ [.int .i64 (-1)] : List Value) = List.replicate (k + 1) neg1 from (List.replicate_succ' (n := k) (a := neg1)).symm] at h1
    have h2 : (List.replicate k neg1).length + 1 = (List.replicate (k + 1) neg1).length := by simp
    rw [h2] at h1
    exact owns_eq h1 fun g hg => Below.heap_setCell _ ⟨w.heap.size + 1, 2, none⟩ _ g (fun e => by have := (h1.lt g hg).1; show False; have e' : g = w.heap.size + 1 := e; omega)
theorem GnZ.fin {w : World} {r : Value} {k : Nat} {z : World} (h : GnZ w r k z) :
    Box (((z.setCell ⟨w.heap.size, 0, none⟩ (.int .i64 (-1))).setCell ⟨w.heap.size, 1, none⟩ (.slice none 0 0)).setCell ⟨w.heap.size, 2, none⟩ r) w.heap.size #[.int .i64 (-1), .slice none 0 0, r] 26 ∧
    GtOwn w.heap.size (((z.setCell ⟨w.heap.size, 0, none⟩ (.int .i64 (-1))).setCell ⟨w.heap.size, 1, none⟩ (.slice none 0 0)).setCell ⟨w.heap.size, 2, none⟩ r) (.slice none 0 0) r ⟨-1, [], List.replicate k (-1)⟩ ∧
    Below w.heap.size w (((z.setCell ⟨w.heap.size, 0, none⟩ (.int .i64 (-1))).setCell ⟨w.heap.size, 1, none⟩ (.slice none 0 0)).setCell ⟨w.heap.size, 2, none⟩ r) := by
  obtain ⟨a, b, c, hr⟩ := h.bR
  refine ⟨by simpa using ((hr.set 0 (.int .i64 (-1))).set 1 (.slice none 0 0)).set 2 r, ⟨⟨rfl, .inl ⟨rfl, rfl⟩⟩, ?_, fun i hi => by cases hi⟩, ((h.bel.setCell (p := ⟨w.heap.size, 0, none⟩) (Nat.le_refl _) _).setCell (p := ⟨w.heap.size, 1, none⟩) (Nat.le_refl _) _).setCell (p := ⟨w.heap.size, 2, none⟩) (Nat.le_refl _) _⟩
  have e : (List.replicate k (-1 : Int)).map I64 = List.replicate k neg1 := by rw [List.map_replicate]; rfl
  have e2 : (List.replicate k (-1 : Int)).length = (List.replicate k neg1).length := by simp
  show World.ownsRow _ _ _ _ _ (List.replicate k (-1 : Int)).length ((List.replicate k (-1 : Int)).map I64)
  rw [e, e2]
  refine owns_lo (owns_eq h.own fun g hg => ?_) (by omega)
  have hg2 := (h.own.lt g hg).1
  exact (Below.heap_setCell _ ⟨w.heap.size, 2, none⟩ _ g (by show g ≠ w.heap.size; omega)).trans ((Below.heap_setCell _ ⟨w.heap.size, 1, none⟩ _ g (by show g ≠ w.heap.size; omega)).trans (Below.heap_setCell _ ⟨w.heap.size, 0, none⟩ _ g (by show g ≠ w.heap.size; omega)))
theorem wpList_more {P : Program} {W : World} {ops : Array Oper} {rest : List Oper} {o : Oper} {a : Act} {Q : Exit → Act → World → Prop} (hgd : o.guard = none) (s x : Operand) (t : TypeId)
    (ho : o.op = .call { callee := .builtin .append, args := #[s, x], argTypes := #[t, t] })
    (B : Nat) (e : TypeId) (z : Value) (bytes : Nat) (ht : P.underlying t = some (.slice e)) (hi : (P.info? e).map (fun i => (i.zero, i.size, i.bytes)) = some (some z, 1, bytes)) (hzs : z.cells.size = 1)
    (v : Value) (xs : List Value) (hs : a.eval s = v) (hown : W.ownsRow B e 1 v xs.length xs) (g : Nat) (u : Value) (hx : a.eval x = .slice (some ⟨g, 0, none⟩) 1 1) (hu : W.cell? ⟨g, 0, none⟩ = some u) (h1 : u.oneCell' = true)
    (h63 : xs.length + 1 ≤ maxLen) (hbytes : (xs.length + 1) * bytes ≤ 140737488355328) (hB : B ≤ W.heap.size)
    (h : ∀ v' w', MoreR B e W v xs u v' w' → wpList P ops Q rest (a.put o.dst v') w') : wpList P ops Q (o :: rest) a W :=
  wpList_step fun _ hK => step_more hgd s x t ho B e z bytes ht hi hzs v xs hs hown g u hx hu h1 h63 hbytes hB fun v' w' hm => hK _ _ (h v' w' hm)
def GnR (w : World) (q : Int) (iv : Value) (wr : World) : Prop := ∃ (i : Nat) (r : Value), i ≤ min q.toNat 2 ∧ iv = .int .i64 i ∧ Hid (GnZ w r i wr)

set_option maxRecDepth 100000 in
set_option maxHeartbeats 4000000 in
theorem specGateNew_any (q : Int) (w : World) :
    Calls Try.prog 46 #[.int .i64 q] w fun e w' => ∃ r1 r2, e = .returned (.agg #[.int .i64 (gateNewE q).owner, r1, r2]) ∧ GtOwn w.heap.size w' r1 r2 (gateNewE q) ∧ Below w.heap.size w w' := by
  have Z0 : Hid (GnZ w (.slice none 0 0) 0 ((w.alloc (.cells #[.int .i64 0, .slice none 0 0, .slice none 0 0] 26)).alloc (.cells #[.int .i64 (-1), .slice none 0 0, .slice none 0 0] 26))) :=
    ⟨⟨_, _, _, (Box.made w _ _).stays ((Below.refl _ _).alloc (Nat.le_refl _) _)⟩, Box.madeAt (by simp) _ _, ⟨rfl, .inl ⟨rfl, rfl⟩⟩, by show Below w.heap.size w _; go_grown⟩
  go_enter Try.func46, Try.ntmps46
  go_wp2
  go_loopw [4] (fun iv wr => GnR w q iv wr) (fun iv _ => 2 - (intOf iv).toNat)
  case atStart => exact ⟨0, _, by omega, rfl, Z0.out⟩
  case round =>
    clear Z0
    obtain ⟨i, r, hi, rfl, Z⟩ := hrel
    obtain ⟨p1, k1, rfl⟩ := form_own Z.out.own
    have HL : Hid ((List.replicate i neg1).length = i) := List.length_replicate
    have to0 := Lib.cell_of_heap Z.out.bO 0
    have to1 := Lib.cell_of_heap Z.out.bO 1
    have to2 := Lib.cell_of_heap Z.out.bO 2
    obtain ⟨ra, rb, rc, hrr⟩ := Z.out.bR
    have tr0 := Lib.cell_of_heap hrr 0
    have tr1 := Lib.cell_of_heap hrr 1
    have tr2 := Lib.cell_of_heap hrr 2
    have fr0 := Lib.frozen_of_heap hrr 0
    have fr1 := Lib.frozen_of_heap hrr 1
    have fr2 := Lib.frozen_of_heap hrr 2
    simp at to0 to1 to2 tr0 tr1 tr2
    clear hrr
    rw [HL.out] at Z
    have hfin : ¬ ((i : Int) < q ∧ i < 2) → gateNewE q = ⟨-1, [], List.replicate i (-1)⟩ := fun hn => by
      unfold gateNewE
      congr 2
      omega
    have HFIN := hide hfin
    clear hfin
    by_cases hlq : (i : Int) < q
    · by_cases hl2 : i < 2
      · have hl2' : (i : Int) < 2 := by omega
        have HG := hide fun W h => Z.out.stays (z' := W) h
        have hgl := Z.out.bO.lt
        have HGL := hide hgl
        go_wp2_with (at_builtin; refine wpList_more rfl (.tmp 16) (.tmp 17) 24 rfl (w.heap.size + 2) 3 (.int .i64 0) 8 Try.underlying24 Try.infoInt rfl (.slice p1 i k1) (List.replicate i neg1) rfl ?_ wr.heap.size (.int .i64 (-1)) rfl ?_ rfl ?_ ?_ ?_ ?_; (exact (HG.out _ (by go_grown)).own); (exact Lib.cell_of_heap (Box.made wr _ _) 0); (rw [HL.out]; unfold maxLen; omega); (rw [HL.out]; omega); (have h9 := HGL.out; simp; omega); intro v' w' hm; have HBX := hide (box_more hm ((HG.out _ (by go_grown)).own) (HG.out _ (by go_grown)).bO (by decide)); have sh := form_own hm.own; obtain ⟨po, co, e9⟩ := sh; subst e9; have Z9 := hide (GnZ.more (HG.out _ (by go_grown)) hm); rw [HL.out] at Z9; have kc := (Lib.cell_of_heap HBX.out 2).trans rfl; have kf := Lib.frozen_of_heap HBX.out 2; clear hm)
        go_roundw
        case rel => exact ⟨i + 1, _, by omega, by go_num, Z9⟩
        case measure => simp [intOf]; omega
      · have hl2' : ¬ (i : Int) < 2 := by omega
        have HPE := hide (HFIN.out (by omega))
        go_wp2
        refine box_ret (g := w.heap.size) (t := 26) (cs := #[.int .i64 (-1), .slice none 0 0, .slice p1 i k1]) rfl rfl ?_ _ Try.underlying26 rfl (by kernel_rfl) rfl ?_
        · exact Z.out.fin.1
        · rw [HPE.out]
          exact ⟨_, _, rfl, Z.out.fin.2.1, Z.out.fin.2.2⟩
    · have HPE := hide (HFIN.out (by omega))
      go_wp2
      refine box_ret (g := w.heap.size) (t := 26) (cs := #[.int .i64 (-1), .slice none 0 0, .slice p1 i k1]) rfl rfl ?_ _ Try.underlying26 rfl (by kernel_rfl) rfl ?_
      · exact Z.out.fin.1
      · rw [HPE.out]
        exact ⟨_, _, rfl, Z.out.fin.2.1, Z.out.fin.2.2⟩
end Go.Proofs.Ytbikdpljhnhcaaa

namespace Go.Proofs.Ytbikdpljhnhcaaa
open Go.RowKit

theorem Box.fill3 {z : World} {g : Nat} {a b c : Value} {T : TypeId} (h : Box z g #[a, b, c] T) (x y u : Value) : Box (((z.setCell ⟨g, 0, none⟩ x).setCell ⟨g, 1, none⟩ y).setCell ⟨g, 2, none⟩ u) g #[x, y, u] T := by
  simpa using ((h.set 0 x).set 1 y).set 2 u
theorem fill3_other (z : World) (g : Nat) (x y u : Value) (k : Nat) (hk : k ≠ g) : (((z.setCell ⟨g, 0, none⟩ x).setCell ⟨g, 1, none⟩ y).setCell ⟨g, 2, none⟩ u).heap[k]? = z.heap[k]? :=
  (Below.heap_setCell _ ⟨g, 2, none⟩ _ k hk).trans ((Below.heap_setCell _ ⟨g, 1, none⟩ _ k hk).trans (Below.heap_setCell _ ⟨g, 0, none⟩ _ k hk))
theorem fill3_below {B : Nat} {w z : World} (h : Below B w z) (g : Nat) (hg : B ≤ g) (x y u : Value) : Below B w (((z.setCell ⟨g, 0, none⟩ x).setCell ⟨g, 1, none⟩ y).setCell ⟨g, 2, none⟩ u) :=
  ((h.setCell (p := ⟨g, 0, none⟩) hg x).setCell (p := ⟨g, 1, none⟩) hg y).setCell (p := ⟨g, 2, none⟩) hg u
theorem repl_len (n : Nat) (v : Value) : (List.replicate n v).length = n := List.length_replicate

set_option maxRecDepth 100000 in
set_option maxHeartbeats 2000000 in
theorem implGateNew_any (q : Int) (w : World) : Calls Try.prog 24 #[.int .i64 q] w fun e w' => ∃ r1 r2, e = .returned (.agg #[.int .i64 (gateNewE q).owner, r1, r2]) ∧ GtOwn w.heap.size w' r1 r2 (gateNewE q) ∧ Below w.heap.size w w' := by
  obtain ⟨n, en⟩ : ∃ n, min q.toNat 2 = n := ⟨_, rfl⟩
  have hn : n ≤ 2 := by omega
  have CR : ∀ (b : Nat) (z : World) (m : Int), (n : Int) = m → z.cell? ⟨b, 0, none⟩ = some (I64 (-1)) → b < z.heap.size → Hid (Calls Try.prog 45 #[.slice (some ⟨b, 0, none⟩) 1 1, .int .i64 m] z fun e w' => ∃ v', e = .returned v' ∧ w'.ownsRow z.heap.size 3 1 v' n (List.replicate n (I64 (-1))) ∧ Below z.heap.size z w') := by
    rintro b z m rfl h1 h2
    exact hide (repeat_any b n z hn h1 h2)
  have HE : Hid (gateNewE q = ⟨-1, [], List.replicate n (-1)⟩) := hide (by unfold gateNewE; rw [en])
  obtain ⟨W1, hW⟩ : ∃ W1, ((w.alloc (.cells #[.int .i64 0, .slice none 0 0, .slice none 0 0] 26)).alloc (.cells #[] 3)).alloc (.cells #[.int .i64 (-1)] 3) = W1 := ⟨_, rfl⟩
  have HW := hide hW
  have B1 : Hid (Below w.heap.size w W1) := by rw [← hW]; show Below w.heap.size w _; go_grown
  have BR : Hid (Box W1 w.heap.size #[.int .i64 0, .slice none 0 0, .slice none 0 0] 26) := by
    rw [← hW]; exact hide (((Box.made w _ _).stays ((Below.refl _ _).alloc (Nat.le_refl _) _)).stays ((Below.refl _ _).alloc (Nat.le_refl _) _))
  have BE : Hid (Box W1 (w.heap.size + 1) #[] 3) := by
    rw [← hW]; exact hide ((Box.madeAt (by simp) _ _).stays ((Below.refl _ _).alloc (Nat.le_refl _) _))
  have BN : Hid (Box W1 (w.heap.size + 1 + 1) #[.int .i64 (-1)] 3) := by
    rw [← hW]; exact hide (Box.madeAt (by simp) _ _)
  have HS : Hid (W1.heap.size = w.heap.size + 3) := by rw [← hW]; show _ = _; simp
  clear hW
  have hqs : q < 0 ∨ q > 2 ∨ (q = 0 ∨ q = 1 ∨ q = 2) := by omega
  obtain ⟨m, hm⟩ : ∃ m : Int, (n : Int) = m := ⟨_, rfl⟩
  go_enter Try.func24, Try.ntmps24
  go_wp2_with fail
  all_goals
    rw [HW.out]
    refine (unhide (CR _ _ _ (by omega) (Lib.cell_of_heap BN.out 0) BN.out.lt)).mono ?_
    rintro e w2 ⟨r2, rfl, ho, hb⟩
    obtain ⟨p2, k2, rfl⟩ := form_own ho
    have BR2 := hide (BR.out.stays hb)
    have BE2 := hide (BE.out.stays hb)
    have s0 := Lib.cell_of_heap BR2.out 0
    have s1 := Lib.cell_of_heap BR2.out 1
    have s2 := Lib.cell_of_heap BR2.out 2
    have f0 := Lib.frozen_of_heap BR2.out 0
    have f1 := Lib.frozen_of_heap BR2.out 1
    have f2 := Lib.frozen_of_heap BR2.out 2
    simp at s0 s1 s2
    have HO := hide ho
    have HB : Hid (Below w.heap.size w w2) := hide (B1.out.trans (hb.mono B1.out.size))
    have HSB := hide hb.size
    clear ho hb
    go_wp2
    refine box_ret (g := w.heap.size) (t := 26) (cs := #[.int .i64 (-1), .slice (some ⟨w.heap.size + 1, 0, none⟩) 0 0, .slice p2 n k2]) rfl rfl ?_ _ Try.underlying26 rfl (by kernel_rfl) rfl ?_
    · exact BR2.out.fill3 _ _ _
    · rw [HE.out]
      refine ⟨_, _, rfl, ⟨?_, ?_, ?_⟩, fill3_below HB.out _ (Nat.le_refl _) _ _ _⟩
      · exact ⟨rfl, .inr ⟨w.heap.size + 1, 0, #[], rfl, by omega, (fill3_other _ _ _ _ _ _ (by omega)).trans BE2.out, Nat.le_refl _, by unfold maxLen; omega, rfl, rfl⟩⟩
      · show World.ownsRow _ _ _ _ _ (List.replicate n (-1)).length ((List.replicate n (-1)).map I64)
        rw [List.length_replicate, List.map_replicate]
        exact owns_lo (owns_eq HO.out fun g hg => fill3_other _ _ _ _ _ _ (by have := (HO.out.lt g hg).1; have := HS.out; omega)) (by have := HS.out; omega)
      · intro i hi h2
        have h3 := (HO.out.lt i h2).1
        have h4 : w.heap.size + 1 = i := by injection hi
        have := HS.out
        omega
end Go.Proofs.Ytbikdpljhnhcaaa
