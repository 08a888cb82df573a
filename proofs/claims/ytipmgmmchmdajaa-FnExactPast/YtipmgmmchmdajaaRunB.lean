/-
  Walks: a thread without what comes, by the program.
-/
import Derived.Test.YtipmgmmchmdajaaRunA
import Derived.Test.YtipmgmmchmdajaaThrW
import Derived.Test.YtipmgmmchmdajaaLwHa
import Derived.Test.YtipmgmmchmdajaaFlV
namespace Go.Proofs.Ytipmgmmchmdajaa
open Go.RowKit

theorem EvOwn.boxed' {B : Nat} {w : World} {v0 v1 : Value} {x : Ev} (h : EvOwn B w v0 v1 x) {b : Nat} {cs : Array Value} {T : TypeId} (hb : Box w b cs T) (t3 : T ≠ 3) (t9 : T ≠ 9) (i : Nat) (u : Value) : EvOwn B (w.setCell ⟨b, i, none⟩ u) v0 v1 x := by
  have ne : ∀ (e : TypeId) (v : Value) (n : Nat) (xs : List Value), T ≠ e → w.ownsRow B e 1 v n xs → (w.setCell ⟨b, i, none⟩ u).ownsRow B e 1 v n xs := fun e v n xs hT ho => owns_eq ho fun g hg => Below.heap_setCell _ ⟨b, i, none⟩ _ g fun eg => by
    have eg' : g = b := eg
    subst eg'
    rcases ho.2 with ⟨rfl, _⟩ | ⟨g', cap, cur, rfl, _, h1, _⟩
    · cases hg
    · injection hg with hg
      have hg' : g' = g := hg
      subst hg'
      have h2 : w.heap[g']? = _ := hb
      rw [h1] at h2
      injection h2 with h2
      injection h2 with _ h2
      exact hT h2.symm
  exact ⟨ne _ _ _ _ t9 h.o0, ne _ _ _ _ t3 h.o1, h.ap⟩
theorem RnAt.drop {w : World} {B b : Nat} {nv mv pv : Value} {g : Nat} {nx : Option Addr} {e0 e1 : Value} {x : Tr} {k : Int} {ks : List Int} (h : RnAt w B b nv mv pv (some ⟨g, 0, none⟩) e0 e1 x) (hx : x.todo.reverse = k :: ks) (hc : Chain w (.pointer nx) ks) :
    RnAt ((w.setCell ⟨b, 3, none⟩ (.pointer nx)).setCell ⟨b, 3 + 1, none⟩ (.int .i64 ((x.todo.length : Int) - 1))) B b nv mv pv nx e0 e1 (pastE x) := by
  have b1 := h.box.set 3 (.pointer nx)
  have er : x.todo.dropLast.reverse = ks := by rw [← List.tail_reverse, hx]; rfl
  have e2 : ((x.todo.length : Int) - 1) = (x.todo.dropLast.length : Int) := by
    have := congrArg List.length hx
    rw [List.length_reverse, List.length_cons] at this
    rw [List.length_dropLast, this]
    omega
  refine ⟨?_, ?_, (h.env.boxed' h.box (by decide) (by decide) 3 _).boxed' b1 (by decide) (by decide) (3 + 1) _, h.le⟩
  · have := b1.set (3 + 1) (.int .i64 ((x.todo.length : Int) - 1))
    rw [e2] at this ⊢
    show Box _ _ #[nv, mv, pv, .pointer nx, .int .i64 (x.todo.dropLast.length : Int), e0, e1, .int .i64 x.fault] _
    simpa using this
  · show Chain _ _ x.todo.dropLast.reverse
    rw [er]
    exact (hc.other h.box (by decide) 3 _).other b1 (by decide) (3 + 1) _
theorem RnAt.past {w : World} {B b : Nat} {nv mv pv : Value} {t : Option Addr} {e0 e1 : Value} {x : Tr} (h : RnAt w B b nv mv pv t e0 e1 x) (hB : B ≤ w.heap.size) (hl : TrLen x) :
    Calls Try.prog 53 #[.pointer (some ⟨b, 3, none⟩)] w fun e w' => e = .returned (.tuple #[]) ∧ ∃ t', RnAt w' B b nv mv pv t' e0 e1 (pastE x) ∧ Below B w w' := by
  cases e : x.todo.reverse with
  | nil =>
    have hn : x.todo.length = 0 := by rw [← List.length_reverse, e]; rfl
    have hc := h.ch
    rw [e] at hc
    injection hc with hc
    subst hc
    refine (dropNone_any b 3 _ _ w h.box rfl).mono ?_
    rintro e w' ⟨rfl, rfl⟩
    exact ⟨rfl, none, by rw [past_nil hn]; exact h, Below.refl _ _⟩
  | cons k ks =>
    have hc := h.ch
    rw [e] at hc
    obtain ⟨g, nx, et, hg, hc⟩ := hc
    injection et with et
    subst et
    obtain ⟨nt, rfl⟩ := hc.form
    refine (drop_any b 3 g k (x.todo.length : Int) nt _ _ w h.box rfl rfl hg (by omega) (by have := hl.l0; omega)).mono ?_
    rintro e w' ⟨rfl, rfl⟩
    exact ⟨rfl, nt, h.drop e hc, ((Below.refl _ _).setCell (p := ⟨b, 3, none⟩) h.le _).setCell (p := ⟨b, 3 + 1, none⟩) h.le _⟩

set_option maxRecDepth 100000 in
set_option maxHeartbeats 4000000 in
theorem implPast_any (v0 v1 v2 : Value) (x : Tr) (w : World) (h : TrAt w v0 v1 v2 x) (hl : TrLen x) :
    Calls Try.prog 24 #[.agg #[v0, v1, v2, .int .i64 x.fault]] w fun e w' => ∃ r0 r1 r2, e = .returned (.agg #[r0, r1, r2, .int .i64 (pastE x).fault]) ∧ TrOwn w.heap.size w' r0 r1 r2 (pastE x) ∧ Below w.heap.size w w' := by
  have HA := hide h
  have HL := hide hl
  have HL' : Hid (TrLen (pastE x)) := ⟨by show x.todo.dropLast.length ≤ _; rw [List.length_dropLast]; have := hl.l0; omega, hl.l1, hl.l2⟩
  have CR := fun z h => hide (runnerOf_any (.slice none 0 0) (.slice none 0 0) (.slice none 0 0) v0 v1 v2 x z h hl ⟨_, _, _, _, _, _, _, _, _, rfl, rfl, rfl⟩)
  obtain ⟨W1, hW⟩ : ∃ W1, (w.alloc (.cells #[v0, v1, v2, .int .i64 x.fault] 34)).alloc (.cells #[.slice none 0 0, .slice none 0 0, .slice none 0 0, .int .i64 0] 34) = W1 := ⟨_, rfl⟩
  have B1 : Hid (Below w.heap.size w W1) := by rw [← hW]; show Below w.heap.size w _; go_grown
  have BA1 : Hid (Box W1 w.heap.size #[v0, v1, v2, .int .i64 x.fault] 34) := by rw [← hW]; exact hide ((Box.made w _ _).stays ((Below.refl _ _).alloc (Nat.le_refl _) _))
  have BR1 : Hid (Box W1 (w.heap.size + 1) #[.slice none 0 0, .slice none 0 0, .slice none 0 0, .int .i64 0] 34) := by rw [← hW]; exact hide (Box.madeAt (by simp) _ _)
  have HZ1 : Hid (W1.heap.size = w.heap.size + 2) := by rw [← hW]; show _ = _; simp
  have HW := hide hW
  obtain ⟨o0, c0, rfl, _⟩ := h.a0
  obtain ⟨o1, c1, rfl, _⟩ := h.a1
  obtain ⟨o2, c2, rfl, _⟩ := h.a2
  clear h hl hW
  have q0 := Lib.cell_of_heap BA1.out 0
  have q1 := Lib.cell_of_heap BA1.out 1
  have q2 := Lib.cell_of_heap BA1.out 2
  have q3 := Lib.cell_of_heap BA1.out 3
  simp at q0 q1 q2 q3
  rw [← HW.out] at q0 q1 q2 q3
  go_enter Try.func24, Try.ntmps24
  go_wp2_with fail
  rw [HW.out]
  refine (unhide (CR _ (HA.out.stays B1.out))).mono ?_
  rintro e z1 ⟨b, t, e0, e1, rfl, hr, hb⟩
  have R1 := hide hr
  have BR2 := hide (BR1.out.stays hb)
  have B2 := hide (B1.out.trans (hb.mono B1.out.size))
  have hz1 := hb.size
  have HS := hide (HZ1.out)
  have hB : Hid (W1.heap.size ≤ z1.heap.size) := hz1
  clear hr hb q0 q1 q2 q3 BA1 BR1 B1 hz1
  go_wp2_with fail
  refine (R1.out.past hB.out HL.out).mono ?_
  rintro e z2 ⟨rfl, t', hr, hb⟩
  have R2 := hide hr
  have BR3 : Hid (Box z2 (w.heap.size + 1) #[.slice none 0 0, .slice none 0 0, .slice none 0 0, .int .i64 0] 34) := (hb.block _ (by have := HS.out; omega)).trans BR2.out
  have B3 := hide (B2.out.trans (hb.mono (by have := HS.out; omega)))
  have hB3 : Hid (W1.heap.size ≤ z2.heap.size) := Nat.le_trans hB.out hb.size
  clear hr hb R1 BR2 B2 hB
  go_wp2_with fail
  refine (thread_any _ _ _ _ _ _ _ _ _ _ R2.out HL'.out).mono ?_
  rintro e z3 ⟨r0, r1, r2, rfl, ho, hb⟩
  obtain ⟨p0, k0, rfl⟩ := form_own ho.o0
  obtain ⟨p1, k1, rfl⟩ := form_own ho.o1
  obtain ⟨p2, k2, rfl⟩ := form_own ho.o2
  have Z := hide (show PaZ w _ _ _ (pastE x) z3 from ⟨⟨_, _, _, _, BR3.out.stays hb⟩, ho.lo (by have := HS.out; have := hB3.out; omega), B3.out.trans (hb.mono B3.out.size)⟩)
  clear ho hb
  obtain ⟨ra, rb, rc, rd, hrr⟩ := Z.out.bR
  have s0 := Lib.cell_of_heap hrr 0
  have s1 := Lib.cell_of_heap hrr 1
  have s2 := Lib.cell_of_heap hrr 2
  have s3 := Lib.cell_of_heap hrr 3
  have f0 := Lib.frozen_of_heap hrr 0
  have f1 := Lib.frozen_of_heap hrr 1
  have f2 := Lib.frozen_of_heap hrr 2
  have f3 := Lib.frozen_of_heap hrr 3
  simp at s0 s1 s2 s3
  clear hrr
  obtain ⟨W, eW, hB, hO, hF⟩ := Z.out.fin
  have HR := hide (And.intro hB (And.intro hO hF))
  have EW := hide eW
  clear hB hO hF eW
  go_wp2
  rw [EW.out]
  refine box_ret (g := w.heap.size + 1) (t := 34) (cs := #[.slice p0 (pastE x).todo.length k0, .slice p1 (pastE x).names.length k1, .slice p2 (pastE x).vals.length k2, .int .i64 (pastE x).fault]) rfl rfl ?_ _ Try.underlying34 rfl (by kernel_rfl) rfl ?_
  · exact HR.out.1
  · exact ⟨_, _, _, rfl, HR.out.2.1, HR.out.2.2⟩

theorem lawPast_whole (v0 v1 v2 : Value) (x : Tr) (w : World) (h : TrAt w v0 v1 v2 x) (m : TrMax x) :
    Calls Try.prog 5 #[.agg #[v0, v1, v2, .int .i64 x.fault]] w fun e w' => e = .returned (.bool true) ∧ Below w.heap.size w w' :=
  lawPast v0 v1 v2 x w h m (fun hl a b c z _ hc => specPast_any a b c x z hc.at (szTr_len hl)) (fun hl a b c z _ hc => implPast_any a b c x z hc.at (szTr_len hl)) (fun hl => pastE_len hl)
end Go.Proofs.Ytipmgmmchmdajaa

namespace Go.Proofs.Ytipmgmmchmdajaa
open Go.RowKit
open Go.ChangeShapes Go.WideShapes Go.ChangeAt Go.Deep

set_option maxRecDepth 100000 in
theorem tr_of {H : Type} {enc : TypeId × Value → H} {W : World} {base : Nat} {v : Value} {d : DataW H} {ps : List MemPlace}
    (ho : Value.okWide Try.prog W .any base 51 v) (h : DataW.Trod enc Try.prog W 0 (fun _ => true) true 51 v d ps) : ∃ v0 v1 v2 x, v = .agg #[v0, v1, v2, .int .i64 x.fault] ∧ TrAt W v0 v1 v2 x ∧ TrMax x := by
  obtain ⟨cs, rfl, _⟩ := okWide_struct Try.underlying51 ho
  obtain ⟨fuel, hf⟩ := h
  obtain ⟨v0, v1, v2, x, e, h1⟩ := opens_Tr _ _ _ hf
  have e2 : cs = #[v0, v1, v2, .int .i64 x.fault] := by
    have : cs.toList = [v0, v1, v2, .int .i64 x.fault] := e
    rw [← Array.toList_inj]
    exact this
  subst e2
  exact ⟨v0, v1, v2, x, rfl, h1⟩
end Go.Proofs.Ytipmgmmchmdajaa
