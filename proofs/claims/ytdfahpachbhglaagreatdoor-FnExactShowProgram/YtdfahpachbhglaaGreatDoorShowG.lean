/-
  Showing, by the specification: a right program, whole.
-/
import Derived.Test.YtdfahpachbhglaaGreatDoorShowB
import Derived.Deep.RegionHeld3
import Derived.BigQuiet
namespace Go.Proofs.YtdfahpachbhglaaGreatDoor
open Go.RowKit

/-- The contract of a body. -/
def BodC (nv mv pv : Value) (ns : List Nd) (T : Nat → ByteArray) (y : Int) : Prop := ∀ w, NdsAt w nv ns → Calls Tryz.prog 14 #[.agg #[nv, mv, pv], .int .i64 y] w fun e w' => e = .returned (.string (T y.toNat)) ∧ Below w.heap.size w w'
/-- While an entry is shown. -/
structure EnZ (w : World) (nv mv pv : Value) (x : Pg) (gm : Nat) (cm : Array Value) (ev : Value) (es : List En) (ge : Nat) (nm pa : ByteArray) (bd : Int) (z : World) : Prop where
  pb : PB w nv mv pv x z
  bm : Box z gm cm 45
  en : EnsAt z ev es
  be : Box z ge #[.string nm, .string pa, .int .i64 bd] 48
theorem EnZ.stays {w : World} {nv mv pv : Value} {x : Pg} {gm : Nat} {cm : Array Value} {ev : Value} {es : List En} {ge : Nat} {nm pa : ByteArray} {bd : Int} {z z' : World} (h : EnZ w nv mv pv x gm cm ev es ge nm pa bd z) (hb : Below z.heap.size z z') : EnZ w nv mv pv x gm cm ev es ge nm pa bd z' := ⟨h.pb.stays hb, h.bm.stays hb, h.en.stays hb, h.be.stays hb⟩
abbrev EnZS (w : World) (nv mv pv : Value) (x : Pg) (gm : Nat) (cm : Array Value) (ev : Value) (es : List En) (ge : Nat) (nm pa : ByteArray) (bd : Int) (z : World) : Prop :=
  z.cell? ⟨w.heap.size, 0, none⟩ = some nv ∧ z.cell? ⟨w.heap.size, 1, none⟩ = some mv ∧ z.cell? ⟨w.heap.size, 2, none⟩ = some pv ∧ z.cell? ⟨ge, 0, none⟩ = some (.string nm) ∧ z.cell? ⟨ge, 1, none⟩ = some (.string pa) ∧ z.cell? ⟨ge, 2, none⟩ = some (.int .i64 bd) ∧ Hid (EnZ w nv mv pv x gm cm ev es ge nm pa bd z)
theorem EnZ.spread {w : World} {nv mv pv : Value} {x : Pg} {gm : Nat} {cm : Array Value} {ev : Value} {es : List En} {ge : Nat} {nm pa : ByteArray} {bd : Int} {z : World} (h : EnZ w nv mv pv x gm cm ev es ge nm pa bd z) : EnZS w nv mv pv x gm cm ev es ge nm pa bd z :=
  ⟨h.pb.box.c0, h.pb.box.c1, h.pb.box.c2, Lib.cell_of_heap h.be 0, Lib.cell_of_heap h.be 1, Lib.cell_of_heap h.be 2, h⟩
/-- While a process is shown. -/
structure PrZ (w : World) (nv mv pv : Value) (x : Pg) (gp : Nat) (nm : ByteArray) (uv vv : Value) (bd : Int) (z : World) : Prop where
  pb : PB w nv mv pv x z
  bp : Box z gp #[.string nm, uv, vv, .int .i64 bd] 51
theorem PrZ.stays {w : World} {nv mv pv : Value} {x : Pg} {gp : Nat} {nm : ByteArray} {uv vv : Value} {bd : Int} {z z' : World} (h : PrZ w nv mv pv x gp nm uv vv bd z) (hb : Below z.heap.size z z') : PrZ w nv mv pv x gp nm uv vv bd z' := ⟨h.pb.stays hb, h.bp.stays hb⟩
abbrev PrZS (w : World) (nv mv pv : Value) (x : Pg) (gp : Nat) (nm : ByteArray) (uv vv : Value) (bd : Int) (z : World) : Prop :=
  z.cell? ⟨w.heap.size, 0, none⟩ = some nv ∧ z.cell? ⟨w.heap.size, 1, none⟩ = some mv ∧ z.cell? ⟨w.heap.size, 2, none⟩ = some pv ∧ z.cell? ⟨gp, 2, none⟩ = some vv ∧ z.cell? ⟨gp, 3, none⟩ = some (.int .i64 bd) ∧ Hid (PrZ w nv mv pv x gp nm uv vv bd z)
theorem PrZ.spread {w : World} {nv mv pv : Value} {x : Pg} {gp : Nat} {nm : ByteArray} {uv vv : Value} {bd : Int} {z : World} (h : PrZ w nv mv pv x gp nm uv vv bd z) : PrZS w nv mv pv x gp nm uv vv bd z :=
  ⟨h.pb.box.c0, h.pb.box.c1, h.pb.box.c2, Lib.cell_of_heap h.bp 2, Lib.cell_of_heap h.bp 3, h⟩
theorem prcT_size {T : Nat → ByteArray} {s : ByteArray} {p : Pr} (h : procB p = true) (hT : (T p.body.toNat).size ≤ 60000000000000) : (prcT T s p).size ≤ s.size + 70000000000000 := by
  simp only [procB, Bool.and_eq_true] at h
  have h1 := nameB_size h.1.1
  have h2 := names_fit (n := 3) h.1.2
  have h3 := names_fit (n := 3) h.2
  have l1 := listT_size ⟨#[118, 97, 114]⟩ p.vars h3.2
  have l2 := namesT_size ⟨#[32, 117, 115, 101, 115]⟩ p.uses h2.2
  have e1 : (⟨#[118, 97, 114]⟩ : ByteArray).size = 3 := rfl
  have e2 : (⟨#[32, 117, 115, 101, 115]⟩ : ByteArray).size = 5 := rfl
  have e3 : (⟨#[112, 114, 111, 99, 101, 115, 115, 32]⟩ : ByteArray).size = 8 := rfl
  have e4 : (⟨#[32, 59, 32]⟩ : ByteArray).size = 3 := rfl
  rw [e1] at l1
  rw [e2] at l2
  unfold prcT prcH
  split <;> simp only [size_app] <;> rw [e3, e4] <;> omega
theorem pros_size {T : Nat → ByteArray} : ∀ (ps : List Pr) (s : ByteArray), (∀ p ∈ ps, procB p = true ∧ (T p.body.toNat).size ≤ 60000000000000) → (ps.foldl (prcT T) s).size ≤ s.size + ps.length * 70000000000000
  | [], s, _ => by simp
  | p :: ps, s, h => by
    have h1 := h p List.mem_cons_self
    have h2 := prcT_size (s := s) h1.1 h1.2
    have h3 := pros_size ps (prcT T s p) (fun x hx => h x (List.mem_cons_of_mem _ hx))
    rw [List.foldl_cons, List.length_cons, Nat.succ_mul]
    omega
def PrcRel (w : World) (nv mv pv : Value) (x : Pg) (T : Nat → ByteArray) (n : Nat) (s0 : ByteArray) (sv iv : Value) (wr : World) : Prop :=
  ∃ i : Nat, i ≤ n ∧ sv = .string ((x.pros.take i).foldl (prcT T) s0) ∧ iv = .int .i64 i ∧ Hid (PB w nv mv pv x wr)

def EnyRel (w : World) (nv mv pv : Value) (x : Pg) (T : Nat → ByteArray) (s0 : ByteArray) (es : List En) (n g : Nat) (cs : Array Value) (ev : Value) (sv iv : Value) (wr : World) : Prop :=
  ∃ i : Nat, i ≤ n ∧ sv = .string ((es.take i).foldl (entT T) s0) ∧ iv = .int .i64 i ∧ Hid (PB w nv mv pv x wr) ∧ Hid (Box wr g cs 45) ∧ Hid (EnsAt wr ev es)

set_option maxRecDepth 100000 in
set_option maxHeartbeats 4000000 in
theorem specShow_right (nv mv pv : Value) (x : Pg) (T : Nat → ByteArray) (hF : Fit x T) (hC : ∀ y ∈ bodiesL x.mons x.pros, BodC nv mv pv x.nodes T y) (w : World) (hN : NdsAt w nv x.nodes) (hM : MosAt w mv x.mons) (hP : PrsAt w pv x.pros) (hL : PgLen x) (hin : NsIn x.nodes) (hmi : ∀ m ∈ x.mons, MoIn m) (hpi : ∀ p ∈ x.pros, PrIn p) (hkl : (allKids x.nodes).length ≤ 1048576) (hbl : (bodiesL x.mons x.pros).length ≤ 1048576) (hw : specProgB x = true) (hT : T = fun k => joinS (shS x.nodes 10 k)) :
    Calls Tryz.prog 5 #[.agg #[nv, mv, pv]] w fun e w' => e = .returned (.tuple #[.string (showP x).1, .bool (showP x).2]) ∧ Below w.heap.size w w' := by
  have hb1 : Below w.heap.size w (w.alloc (.cells #[nv, mv, pv] 34)) := (Below.refl _ _).alloc (Nat.le_refl _) _
  have CP := hide (specProgramOk_any nv mv pv x _ (hN.stays hb1) (hM.stays hb1) (hP.stays hb1) hL hin hmi hpi hkl hbl)
  rw [hw] at CP
  have HE : Hid (showP x = if (shwT T x).size ≤ 1500 then (shwT T x, true) else (ByteArray.empty, false)) := by show _ = _; unfold showP; rw [if_pos hw, hT]
  have PB0 : Hid (PB w nv mv pv x (w.alloc (.cells #[nv, mv, pv] 34))) := ⟨hb1, Boxed.made w nv mv pv _, hN.stays hb1, hM.stays hb1, hP.stays hb1⟩
  have HF := hide hF
  have HC := hide hC
  have HMI := hide hmi
  have HPI := hide hpi
  obtain ⟨na, nc, rfl⟩ : ∃ a c, nv = .slice a x.nodes.length c := by obtain ⟨a, c, e, _⟩ := hN; exact ⟨a, c, e⟩
  obtain ⟨ma, mc, rfl⟩ : ∃ a c, mv = .slice a x.mons.length c := by obtain ⟨a, c, e, _⟩ := hM; exact ⟨a, c, e⟩
  obtain ⟨pa, pc, rfl⟩ : ∃ a c, pv = .slice a x.pros.length c := by obtain ⟨a, c, e, _⟩ := hP; exact ⟨a, c, e⟩
  obtain ⟨ln, eln⟩ : ∃ n, x.nodes.length = n := ⟨_, rfl⟩
  obtain ⟨n, en⟩ : ∃ n, x.mons.length = n := ⟨_, rfl⟩
  obtain ⟨m, em⟩ : ∃ m, x.pros.length = m := ⟨_, rfl⟩
  have EN := hide en
  have EM := hide em
  have hn3 : n ≤ 3 := by rw [← en]; exact hF.ml
  have hm4 : m ≤ 4 := by rw [← em]; exact hF.pl
  rw [eln, en, em] at CP PB0 HC ⊢
  clear hb1 hN hM hP hL hin hmi hpi hkl hbl hw hF hC hT en em eln
  obtain ⟨c0, c1, c2, _⟩ := PB0.out.box
  go_enter Tryz.func5, Tryz.ntmps5
  go_wp2_with fail
  refine (unhide CP).mono ?_
  rintro e w1 ⟨rfl, hb⟩
  have PB1 := hide (PB0.out.stays hb)
  clear hb CP PB0 c0 c1 c2
  go_wp2
  go_loopw [4, 5] (fun sv iv wr => MonRel w (.slice na ln nc) (.slice ma n mc) (.slice pa m pc) x T n sv iv wr) (fun _ iv _ => n - (intOf iv).toNat)
  case atStart => exact ⟨0, Nat.zero_le _, rfl, rfl, PB1⟩
  case round =>
    clear PB1
    obtain ⟨i, hi, rfl, rfl, HPB⟩ := hrel
    obtain ⟨c0, c1, c2, _⟩ := HPB.out.box
    have hsz := mons_size (T := T) (x.mons.take i) ByteArray.empty (fun y hy => HF.out.mons y (List.mem_of_mem_take hy))
    have hlen : (x.mons.take i).length * 200000000000000 ≤ 3 * 200000000000000 := Nat.mul_le_mul_right _ (by rw [List.length_take, EN.out]; omega)
    have e0 : ByteArray.empty.size = 0 := rfl
    by_cases hlt : i < n
    · have hlt' : (i : Int) < (n : Int) := by omega
      have hi0 : (0 : Int) ≤ (i : Int) := by omega
      have hix : i < x.mons.length := by rw [EN.out]; exact hlt
      have HT := hide (fold_take (monT T) ByteArray.empty hix)
      have hMB := HF.out.mons _ (List.getElem_mem hix)
      have hMI := HMI.out _ (List.getElem_mem hix)
      have HBY : Hid (∀ e ∈ x.mons[i].ents, BodC (.slice na ln nc) (.slice ma n mc) (.slice pa m pc) x.nodes T e.body) := fun e he => HC.out _ (List.mem_append_left _ (List.mem_flatMap.2 ⟨_, List.getElem_mem hix, List.mem_map.2 ⟨e, he, rfl⟩⟩))
      obtain ⟨q, eq⟩ : ∃ q, q = (x.mons.take i).foldl (monT T) ByteArray.empty := ⟨_, rfl⟩
      rw [← eq] at HT hsz ⊢
      have hq : q.size ≤ 600000000000000 := by omega
      obtain ⟨ao', c', e1, hc1⟩ := HPB.out.mos
      injection e1 with e2 e3 e4
      subst e2
      obtain ⟨a, vv, qv, ev, rfl, hpb, hx⟩ := hc1 i hix
      obtain ⟨r, hra⟩ : ∃ r, a.add (i * 4) = r := ⟨_, rfl⟩
      rw [hra] at hx
      obtain ⟨y, ey⟩ : ∃ y, x.mons[i] = y := ⟨_, rfl⟩
      rw [ey] at hx HT hMB hMI HBY
      clear hsz hlen e0 eq e3 e4 hc1 ey
      have hMS := monH_size (s := q) hMB.1
      have hb2 : Below wr.heap.size wr (wr.alloc (.cells #[.string y.name, vv, qv, ev] 45)) := (Below.refl _ _).alloc (Nat.le_refl _) _
      have PB2 := hide (HPB.out.stays hb2)
      have BX := hide (Box.made wr #[.string y.name, vv, qv, ev] 45)
      have CV := fun W h => hide (l07List_any ⟨#[118, 97, 114]⟩ vv y.vars W h hMI.vars.1 (by decide) hMI.vars.2)
      have CQ := fun W h => hide (l07List_any ⟨#[113, 117, 101, 117, 101]⟩ qv y.queues W h hMI.queues.1 (by decide) hMI.queues.2)
      have SV := hide (hx.vars.stays hb2)
      have SQ := hide (hx.queues.stays hb2)
      have HEN := hide (hx.ents.stays hb2)
      obtain ⟨d0, d1, d2, d3, ⟨o1, k1, rfl, _⟩, ⟨o2, k2, rfl, _⟩, ⟨o3, k3, rfl, _⟩⟩ := hx
      have hm1 : (monH q y).size = q.size + 8 + y.name.size + 3 + (listT ⟨#[118, 97, 114]⟩ y.vars).size + (listT ⟨#[113, 117, 101, 117, 101]⟩ y.queues).size := by
        unfold monH
        simp only [size_app]
        rfl
      have HMH : Hid (monH q y = q ++ ⟨#[109, 111, 110, 105, 116, 111, 114, 32]⟩ ++ y.name ++ ⟨#[32, 59, 32]⟩ ++ listT ⟨#[118, 97, 114]⟩ y.vars ++ listT ⟨#[113, 117, 101, 117, 101]⟩ y.queues) := rfl
      obtain ⟨t1, et1⟩ : ∃ t, t = listT ⟨#[118, 97, 114]⟩ y.vars := ⟨_, rfl⟩
      obtain ⟨t2, et2⟩ : ∃ t, t = listT ⟨#[113, 117, 101, 117, 101]⟩ y.queues := ⟨_, rfl⟩
      rw [← et1] at hm1 CV HMH
      rw [← et2] at hm1 CQ HMH
      clear et1 et2
      have s1 : ¬ 9223372036854775807 < q.size + 8 := by omega
      have s2 : ¬ 9223372036854775807 < q.size + 8 + y.name.size := by omega
      have s3 : ¬ 9223372036854775807 < q.size + 8 + y.name.size + 3 := by omega
      have s4 : ¬ 9223372036854775807 < q.size + 8 + y.name.size + 3 + t1.size := by omega
      have s5 : ¬ 9223372036854775807 < q.size + 8 + y.name.size + 3 + t1.size + t2.size := by omega
      clear hm1 hb2
      go_wp2_with fail
      generalize wr.alloc (.cells #[.string y.name, .slice o1 y.vars.length k1, .slice o2 y.queues.length k2, .slice o3 y.ents.length k3] 45) = W2 at *
      have p0 := Lib.cell_of_heap BX.out 0
      have p1 := Lib.cell_of_heap BX.out 1
      have p2 := Lib.cell_of_heap BX.out 2
      simp at p0 p1 p2
      have CV2 := fun n => hide (Calls.quiet_of_same (w := W2) (n := n) (unhide (CV (W2.drewN n) SV.out)))
      have CQ2 := fun n => hide (Calls.quiet_of_same (w := W2) (n := n) (unhide (CQ (W2.drewN n) SQ.out)))
      clear CV CQ SV SQ
      go_quiet ((go_at_call 13; first | (with_reducible exact unhide (CV2 _)) | (with_reducible exact unhide (CQ2 _))))
      clear p0 p1 p2 s1 s2 s3 s4 s5 CV2 CQ2
      rw [← HMH.out]
      clear HMH
      have PB3 := hide (PB2.out.stays (below_drewN (Below.refl _ _) nq))
      have BX3 := hide (BX.out.stays (below_drewN (Below.refl _ _) nq))
      have HEN3 := hide (HEN.out.stays (below_drewN (Below.refl _ _) nq))
      obtain ⟨ne, ene⟩ : ∃ k, y.ents.length = k := ⟨_, rfl⟩
      have ENE := hide ene
      rw [ene] at BX3 HEN3 ⊢
      obtain ⟨gm, egm⟩ : ∃ gm, wr.heap.size = gm := ⟨_, rfl⟩
      rw [egm] at BX3 ⊢
      clear egm
      have hne3 : ne ≤ 3 := by
        have := hMB.1
        simp only [monB, Bool.and_eq_true, inZ, decide_eq_true_eq] at this
        omega
      have hEB : Hid (∀ e ∈ y.ents, entB e = true ∧ (T e.body.toNat).size ≤ 60000000000000) := fun e he => by
        have := hMB.1
        simp only [monB, Bool.and_eq_true, List.all_eq_true] at this
        exact ⟨this.2 e he, hMB.2 e he⟩
      obtain ⟨s0, es0⟩ : ∃ s0, s0 = monH q y := ⟨_, rfl⟩
      have ES0 := hide es0
      rw [← es0] at hMS ⊢
      clear PB2 BX HEN ene hMB hMI es0 d0 d1 d2 d3
      generalize W2.drewN nq = W3 at *
      go_wp2
      go_loopw [4, 7] (fun sv iv z => EnyRel w (.slice na ln nc) (.slice (some a) n mc) (.slice pa m pc) x T s0 y.ents ne gm #[.string y.name, .slice o1 y.vars.length k1, .slice o2 y.queues.length k2, .slice o3 ne k3] (.slice o3 ne k3) sv iv z) (fun _ iv _ => ne - (intOf iv).toNat)
      case atStart => exact ⟨0, Nat.zero_le _, rfl, rfl, PB3, BX3, HEN3⟩
      case round =>
        clear PB3 BX3 HEN3 c0 c1 c2
        obtain ⟨j, hj, rfl, rfl, HP4, HB4, HE4⟩ := hrel
        have p3 := Lib.cell_of_heap HB4.out 3
        simp at p3
        have hes := ents_size (T := T) (m := 60000000000000) (y.ents.take j) s0 (fun e he => hEB.out e (List.mem_of_mem_take he))
        have hel : (y.ents.take j).length * (60000000000000 + 40) ≤ 3 * (60000000000000 + 40) := Nat.mul_le_mul_right _ (by rw [List.length_take, ENE.out]; omega)
        by_cases hltj : j < ne
        · have hltj' : (j : Int) < (ne : Int) := by omega
          have hj0 : (0 : Int) ≤ (j : Int) := by omega
          have hjx : j < y.ents.length := by rw [ENE.out]; exact hltj
          have HTJ := hide (fold_take (entT T) s0 hjx)
          have hEJ := hEB.out _ (List.getElem_mem hjx)
          have CBJ := HBY.out _ (List.getElem_mem hjx)
          obtain ⟨q2, eq2⟩ : ∃ q2, q2 = (y.ents.take j).foldl (entT T) s0 := ⟨_, rfl⟩
          rw [← eq2] at HTJ hes ⊢
          obtain ⟨ao', c', e1, hc1⟩ := HE4.out
          injection e1 with e2 e3 e4
          subst e2
          obtain ⟨b, rfl, _, hz⟩ := hc1 j hjx
          obtain ⟨r2, hrb⟩ : ∃ r2, b.add (j * 3) = r2 := ⟨_, rfl⟩
          rw [hrb] at hz
          obtain ⟨f0, f1, f2⟩ := hz
          obtain ⟨v, ev⟩ : ∃ v, y.ents[j] = v := ⟨_, rfl⟩
          simp only [ev] at f0 f1 f2 HTJ hEJ CBJ
          obtain ⟨vn, vp, vb⟩ := v
          dsimp only at f0 f1 f2 hEJ CBJ
          have hn1 : vn.size ≤ 8 ∧ vp.size ≤ 8 := by
            have := hEJ.1
            simp only [entB, Bool.and_eq_true] at this
            exact ⟨nameB_size this.1, nameB_size this.2⟩
          have htb := hEJ.2
          have HEQ : Hid (entT T q2 ⟨vn, vp, vb⟩ = q2 ++ ⟨#[101, 110, 116, 114, 121, 32]⟩ ++ vn ++ ⟨#[32, 40, 32]⟩ ++ vp ++ ⟨#[32, 41, 32]⟩ ++ T vb.toNat ++ ⟨#[32, 59, 32]⟩) := rfl
          have CB2 : Hid (∀ z, NdsAt z (.slice na ln nc) x.nodes → Calls Tryz.prog 14 #[.agg #[.slice na ln nc, .slice (some a) n mc, .slice pa m pc], .int .i64 vb] z fun e w' => e = .returned (.string (T vb.toNat)) ∧ Below z.heap.size z w') := CBJ
          obtain ⟨tb, etb⟩ : ∃ t, t = T vb.toNat := ⟨_, rfl⟩
          rw [← etb] at htb CB2 HEQ
          have s1 : ¬ 9223372036854775807 < q2.size + 6 := by omega
          have s2 : ¬ 9223372036854775807 < q2.size + 6 + vn.size := by omega
          have s3 : ¬ 9223372036854775807 < q2.size + 6 + vn.size + 3 := by omega
          have s4 : ¬ 9223372036854775807 < q2.size + 6 + vn.size + 3 + vp.size := by omega
          have s5 : ¬ 9223372036854775807 < q2.size + 6 + vn.size + 3 + vp.size + 3 := by omega
          have s6 : ¬ 9223372036854775807 < q2.size + 6 + vn.size + 3 + vp.size + 3 + tb.size := by omega
          have s7 : ¬ 9223372036854775807 < q2.size + 6 + vn.size + 3 + vp.size + 3 + tb.size + 3 := by omega
          have hb2 : Below wr.heap.size wr (wr.alloc (.cells #[.string vn, .string vp, .int .i64 vb] 48)) := (Below.refl _ _).alloc (Nat.le_refl _) _
          have Z0 : Hid (EnZ w (.slice na ln nc) (.slice (some a) n mc) (.slice pa m pc) x gm #[.string y.name, .slice o1 y.vars.length k1, .slice o2 y.queues.length k2, .slice (some b) ne k3] (.slice (some b) ne k3) y.ents wr.heap.size vn vp vb (wr.alloc (.cells #[.string vn, .string vp, .int .i64 vb] 48))) := ⟨HP4.out.stays hb2, HB4.out.stays hb2, HE4.out.stays hb2, Box.made _ _ _⟩
          clear hes hel eq2 e3 e4 hc1 ev etb hEJ CBJ HE4 HP4 HB4 hb2
          go_wp2_with fail
          generalize wr.alloc (.cells #[.string vn, .string vp, .int .i64 vb] 48) = W4 at *
          obtain ⟨ge, ege⟩ : ∃ ge, wr.heap.size = ge := ⟨_, rfl⟩
          rw [ege] at Z0 ⊢
          clear ege f0 f1 f2 p3
          have KP : Hid (∀ z z', (z.cell? ⟨w.heap.size, 0, none⟩ = some (.slice na ln nc) ∧ z.cell? ⟨w.heap.size, 1, none⟩ = some (.slice (some a) n mc) ∧ z.cell? ⟨w.heap.size, 2, none⟩ = some (.slice pa m pc) ∧ z.cell? ⟨ge, 0, none⟩ = some (.string vn) ∧ z.cell? ⟨ge, 1, none⟩ = some (.string vp) ∧ z.cell? ⟨ge, 2, none⟩ = some (.int .i64 vb) ∧ Hid (EnZ w (.slice na ln nc) (.slice (some a) n mc) (.slice pa m pc) x gm #[.string y.name, .slice o1 y.vars.length k1, .slice o2 y.queues.length k2, .slice (some b) ne k3] (.slice (some b) ne k3) y.ents ge vn vp vb z)) → Below z.heap.size z z' → (z'.cell? ⟨w.heap.size, 0, none⟩ = some (.slice na ln nc) ∧ z'.cell? ⟨w.heap.size, 1, none⟩ = some (.slice (some a) n mc) ∧ z'.cell? ⟨w.heap.size, 2, none⟩ = some (.slice pa m pc) ∧ z'.cell? ⟨ge, 0, none⟩ = some (.string vn) ∧ z'.cell? ⟨ge, 1, none⟩ = some (.string vp) ∧ z'.cell? ⟨ge, 2, none⟩ = some (.int .i64 vb) ∧ Hid (EnZ w (.slice na ln nc) (.slice (some a) n mc) (.slice pa m pc) x gm #[.string y.name, .slice o1 y.vars.length k1, .slice o2 y.queues.length k2, .slice (some b) ne k3] (.slice (some b) ne k3) y.ents ge vn vp vb z'))) := fun z z' hz hb => (hz.2.2.2.2.2.2.out.stays hb).spread
          have KN : Hid (∀ z, (z.cell? ⟨w.heap.size, 0, none⟩ = some (.slice na ln nc) ∧ z.cell? ⟨w.heap.size, 1, none⟩ = some (.slice (some a) n mc) ∧ z.cell? ⟨w.heap.size, 2, none⟩ = some (.slice pa m pc) ∧ z.cell? ⟨ge, 0, none⟩ = some (.string vn) ∧ z.cell? ⟨ge, 1, none⟩ = some (.string vp) ∧ z.cell? ⟨ge, 2, none⟩ = some (.int .i64 vb) ∧ Hid (EnZ w (.slice na ln nc) (.slice (some a) n mc) (.slice pa m pc) x gm #[.string y.name, .slice o1 y.vars.length k1, .slice o2 y.queues.length k2, .slice (some b) ne k3] (.slice (some b) ne k3) y.ents ge vn vp vb z)) → NdsAt z (.slice na ln nc) x.nodes) := fun z hz => hz.2.2.2.2.2.2.out.pb.nds
          have KV : Hid (∀ z, (z.cell? ⟨w.heap.size, 0, none⟩ = some (.slice na ln nc) ∧ z.cell? ⟨w.heap.size, 1, none⟩ = some (.slice (some a) n mc) ∧ z.cell? ⟨w.heap.size, 2, none⟩ = some (.slice pa m pc) ∧ z.cell? ⟨ge, 0, none⟩ = some (.string vn) ∧ z.cell? ⟨ge, 1, none⟩ = some (.string vp) ∧ z.cell? ⟨ge, 2, none⟩ = some (.int .i64 vb) ∧ Hid (EnZ w (.slice na ln nc) (.slice (some a) n mc) (.slice pa m pc) x gm #[.string y.name, .slice o1 y.vars.length k1, .slice o2 y.queues.length k2, .slice (some b) ne k3] (.slice (some b) ne k3) y.ents ge vn vp vb z)) → EnZ w (.slice na ln nc) (.slice (some a) n mc) (.slice pa m pc) x gm #[.string y.name, .slice o1 y.vars.length k1, .slice o2 y.queues.length k2, .slice (some b) ne k3] (.slice (some b) ne k3) y.ents ge vn vp vb z) := fun z hz => hz.2.2.2.2.2.2.out
          have K0 := hide (Z0.out.stays (Below.refl _ _).drew).spread
          clear Z0
          go_region_held3 (fun z => z.cell? ⟨w.heap.size, 0, none⟩ = some (.slice na ln nc) ∧ z.cell? ⟨w.heap.size, 1, none⟩ = some (.slice (some a) n mc) ∧ z.cell? ⟨w.heap.size, 2, none⟩ = some (.slice pa m pc) ∧ z.cell? ⟨ge, 0, none⟩ = some (.string vn) ∧ z.cell? ⟨ge, 1, none⟩ = some (.string vp) ∧ z.cell? ⟨ge, 2, none⟩ = some (.int .i64 vb) ∧ Hid (EnZ w (.slice na ln nc) (.slice (some a) n mc) (.slice pa m pc) x gm #[.string y.name, .slice o1 y.vars.length k1, .slice o2 y.queues.length k2, .slice (some b) ne k3] (.slice (some b) ne k3) y.ents ge vn vp vb z)) (first | exact K0.out | exact KP.out _ _ (by assumption) hb4) ((go_at_call 14; refine (CB2.out _ (KN.out _ (by assumption))).mono ?_; rintro e w4 ⟨rfl, hb4⟩))
          all_goals (have D := hide (KV.out _ (by assumption)))
          all_goals
            go_wp2
            go_roundw
            case rel => exact ⟨j + 1, by omega, by rw [HTJ.out, HEQ.out], by go_num, D.out.pb, D.out.bm, D.out.en⟩
            case measure => simp [intOf]; omega
        · have ej : j = ne := by omega
          subst ej
          have HEJ : Hid (y.ents.take j = y.ents) := List.take_of_length_le (by rw [ENE.out]; exact Nat.le_refl _)
          rw [HEJ.out] at hes hel ⊢
          have HTM : Hid (monT T q y = y.ents.foldl (entT T) s0 ++ ⟨#[101, 110, 100, 32, 59, 32]⟩) := by rw [ES0.out]; rfl
          obtain ⟨q2, eq2⟩ : ∃ q2, q2 = y.ents.foldl (entT T) s0 := ⟨_, rfl⟩
          rw [← eq2] at hes HTM ⊢
          have s1 : ¬ 9223372036854775807 < q2.size + 6 := by omega
          clear eq2
          go_wp2
          go_roundw
          case rel => exact ⟨i + 1, by omega, by rw [HT.out, HTM.out], by go_num, HP4⟩
          case measure => simp [intOf]; omega
    · have ei : i = n := by omega
      subst ei
      have HEI : Hid (x.mons.take i = x.mons) := List.take_of_length_le (by rw [EN.out]; exact Nat.le_refl _)
      rw [HEI.out] at hsz hlen ⊢
      obtain ⟨s0, es0⟩ : ∃ s0, s0 = x.mons.foldl (monT T) ByteArray.empty := ⟨_, rfl⟩
      have ES0 := hide es0
      rw [← es0] at hsz ⊢
      have hs0 : s0.size ≤ 600000000000000 := by omega
      clear hsz hlen e0 es0
      go_wp2
      go_loopw [4, 9] (fun sv iv z => PrcRel w (.slice na ln nc) (.slice ma i mc) (.slice pa m pc) x T m s0 sv iv z) (fun _ iv _ => m - (intOf iv).toNat)
      case atStart => exact ⟨0, Nat.zero_le _, rfl, rfl, HPB⟩
      case round =>
        clear c0 c1 c2 HPB
        obtain ⟨j, hj, rfl, rfl, HPJ⟩ := hrel
        obtain ⟨c0, c1, c2, _⟩ := HPJ.out.box
        have hps := pros_size (T := T) (x.pros.take j) s0 (fun y hy => HF.out.pros y (List.mem_of_mem_take hy))
        have hpl : (x.pros.take j).length * 70000000000000 ≤ 4 * 70000000000000 := Nat.mul_le_mul_right _ (by rw [List.length_take, EM.out]; omega)
        by_cases hltj : j < m
        · have hltj' : (j : Int) < (m : Int) := by omega
          have hj0 : (0 : Int) ≤ (j : Int) := by omega
          have hjx : j < x.pros.length := by rw [EM.out]; exact hltj
          have HTJ := hide (fold_take (prcT T) s0 hjx)
          have hPB := HF.out.pros _ (List.getElem_mem hjx)
          have hPI := HPI.out _ (List.getElem_mem hjx)
          have CBJ := HC.out _ (List.mem_append_right _ (List.mem_map.2 ⟨_, List.getElem_mem hjx, rfl⟩))
          obtain ⟨q, eq⟩ : ∃ q, q = (x.pros.take j).foldl (prcT T) s0 := ⟨_, rfl⟩
          rw [← eq] at HTJ hps ⊢
          have hq : q.size ≤ 900000000000000 := by omega
          obtain ⟨ao', c', e1, hc1⟩ := HPJ.out.prs
          injection e1 with e2 e3 e4
          subst e2
          obtain ⟨a, uv, vv, rfl, hpb, hx⟩ := hc1 j hjx
          obtain ⟨r, hra⟩ : ∃ r, a.add (j * 4) = r := ⟨_, rfl⟩
          rw [hra] at hx
          obtain ⟨y, ey⟩ : ∃ y, x.pros[j] = y := ⟨_, rfl⟩
          rw [ey] at hx HTJ hPB hPI CBJ
          obtain ⟨pn, pus, pvr, pb⟩ := y
          dsimp only at hPI CBJ
          have hnm := hPB.1
          simp only [procB, Bool.and_eq_true] at hnm
          have hpn := nameB_size hnm.1.1
          have hpu := names_fit (n := 3) hnm.1.2
          have hpv := names_fit (n := 3) hnm.2
          have hl1 := listT_size ⟨#[118, 97, 114]⟩ pvr hpv.2
          have hl2 := namesT_size ⟨#[32, 117, 115, 101, 115]⟩ pus hpu.2
          have e1 : (⟨#[118, 97, 114]⟩ : ByteArray).size = 3 := rfl
          have e2 : (⟨#[32, 117, 115, 101, 115]⟩ : ByteArray).size = 5 := rfl
          rw [e1] at hl1
          rw [e2] at hl2
          have htb := hPB.2
          dsimp only at htb
          have hb2 : Below wr.heap.size wr (wr.alloc (.cells #[.string pn, uv, vv, .int .i64 pb] 51)) := (Below.refl _ _).alloc (Nat.le_refl _) _
          have Z0 : Hid (PrZ w (.slice na ln nc) (.slice ma i mc) (.slice (some a) m pc) x wr.heap.size pn uv vv pb (wr.alloc (.cells #[.string pn, uv, vv, .int .i64 pb] 51))) := ⟨HPJ.out.stays hb2, Box.made _ _ _⟩
          have hsu := hx.uses.stays hb2
          have hsv := hx.vars.stays hb2
          have CU := fun W h => hide (l07Names_any ⟨#[32, 117, 115, 101, 115]⟩ uv pus W h hPI.uses.1 (by decide) hPI.uses.2)
          have CV := fun (W : World) (h : StrsAt W vv pvr) => hide (show Calls Tryz.prog 13 #[.string ⟨#[118, 97, 114]⟩, vv] W fun e w' => e = .returned (.string (listT ⟨#[118, 97, 114]⟩ pvr)) ∧ Below W.heap.size W w' from (l07List_any ⟨#[118, 97, 114]⟩ vv pvr W h hPI.vars.1 (by decide) hPI.vars.2).mono fun e w' ⟨a, b⟩ => ⟨a, by rw [b]; exact Below.refl _ _⟩)
          have SU := hide hsu
          have SV := hide hsv
          obtain ⟨d0, d1, d2, d3, ⟨o1, k1, rfl, _⟩, ⟨o2, k2, rfl, _⟩⟩ := hx
          have HEQ : Hid (prcT T q ⟨pn, pus, pvr, pb⟩ = prcH q ⟨pn, pus, pvr, pb⟩ ++ ⟨#[32, 59, 32]⟩ ++ listT ⟨#[118, 97, 114]⟩ pvr ++ T pb.toNat ++ ⟨#[32, 59, 32]⟩) := rfl
          have CB2 : Hid (∀ z, NdsAt z (.slice na ln nc) x.nodes → Calls Tryz.prog 14 #[.agg #[.slice na ln nc, .slice ma i mc, .slice (some a) m pc], .int .i64 pb] z fun e w' => e = .returned (.string (T pb.toNat)) ∧ Below z.heap.size z w') := CBJ
          obtain ⟨tb, etb⟩ : ∃ t, t = T pb.toNat := ⟨_, rfl⟩
          obtain ⟨tl, etl⟩ : ∃ t, t = listT ⟨#[118, 97, 114]⟩ pvr := ⟨_, rfl⟩
          obtain ⟨tu, etu⟩ : ∃ t, t = namesT ⟨#[32, 117, 115, 101, 115]⟩ pus := ⟨_, rfl⟩
          rw [← etb] at htb CB2 HEQ
          rw [← etl] at hl1 CV HEQ
          rw [← etu] at hl2 CU
          have htl : tl.size ≤ 1000 := by omega
          have htu : tu.size ≤ 1000 := by omega
          dsimp only at d0 d1 d2 d3 SU SV Z0
          obtain ⟨nu, enu⟩ : ∃ k, pus.length = k := ⟨_, rfl⟩
          obtain ⟨pvs, epv⟩ : ∃ k, pvr.length = k := ⟨_, rfl⟩
          have s1 : ¬ 9223372036854775807 < q.size + 8 := by omega
          have s2 : ¬ 9223372036854775807 < q.size + 8 + pn.size := by omega
          have PH : Hid ((nu = 0 → prcH q ⟨pn, pus, pvr, pb⟩ = q ++ ⟨#[112, 114, 111, 99, 101, 115, 115, 32]⟩ ++ pn) ∧ (nu ≠ 0 → prcH q ⟨pn, pus, pvr, pb⟩ = q ++ ⟨#[112, 114, 111, 99, 101, 115, 115, 32]⟩ ++ pn ++ tu)) := by
            constructor
            · intro h
              rw [prcH, if_pos (List.length_eq_zero_iff.1 (enu.trans h))]
            · intro h
              rw [prcH, if_neg (fun e => h (by rw [← enu]; exact List.length_eq_zero_iff.2 e)), etu]
          simp only [enu, epv] at d1 d2 SU SV CU CV Z0
          clear hps hpl eq e3 e4 hc1 ey hb2 hsu hsv etb etl etu hPB hPI CBJ hnm hpu hpv hl1 hl2 e1 e2 enu epv HPJ
          by_cases hu0 : nu = 0
          · have hu' : ¬ (0 : Int) < (nu : Int) := by omega
            have PHE := hide (PH.out.1 hu0)
            clear hu0 PH CU SU
            go_wp2_with fail
            obtain ⟨Q, eQ⟩ : ∃ Q, Q = q ++ ⟨#[112, 114, 111, 99, 101, 115, 115, 32]⟩ ++ pn := ⟨_, rfl⟩
            have hQ : Q.size ≤ 900000000002000 := by
              rw [eQ]
              simp only [size_app]
              have e3 : (⟨#[112, 114, 111, 99, 101, 115, 115, 32]⟩ : ByteArray).size = 8 := rfl
              rw [e3]
              omega
            rw [← eQ] at PHE ⊢
            have s3 : ¬ 9223372036854775807 < Q.size + 3 := by omega
            have s4 : ¬ 9223372036854775807 < Q.size + 3 + tl.size := by omega
            have s5 : ¬ 9223372036854775807 < Q.size + 3 + tl.size + tb.size := by omega
            have s6 : ¬ 9223372036854775807 < Q.size + 3 + tl.size + tb.size + 3 := by omega
            clear eQ
            generalize wr.alloc (.cells #[.string pn, .slice o1 nu k1, .slice o2 pvs k2, .int .i64 pb] 51) = W4 at *
            obtain ⟨gp, egp⟩ : ∃ gp, wr.heap.size = gp := ⟨_, rfl⟩
            rw [egp] at Z0 ⊢
            clear egp d0 d1 d2 d3 c0 c1 c2
            have KP : Hid (∀ z z', (z.cell? ⟨w.heap.size, 0, none⟩ = some (.slice na ln nc) ∧ z.cell? ⟨w.heap.size, 1, none⟩ = some (.slice ma i mc) ∧ z.cell? ⟨w.heap.size, 2, none⟩ = some (.slice (some a) m pc) ∧ z.cell? ⟨gp, 2, none⟩ = some (.slice o2 pvs k2) ∧ z.cell? ⟨gp, 3, none⟩ = some (.int .i64 pb) ∧ Hid (PrZ w (.slice na ln nc) (.slice ma i mc) (.slice (some a) m pc) x gp pn (.slice o1 nu k1) (.slice o2 pvs k2) pb z) ∧ Hid (StrsAt z (.slice o2 pvs k2) pvr)) → Below z.heap.size z z' → (z'.cell? ⟨w.heap.size, 0, none⟩ = some (.slice na ln nc) ∧ z'.cell? ⟨w.heap.size, 1, none⟩ = some (.slice ma i mc) ∧ z'.cell? ⟨w.heap.size, 2, none⟩ = some (.slice (some a) m pc) ∧ z'.cell? ⟨gp, 2, none⟩ = some (.slice o2 pvs k2) ∧ z'.cell? ⟨gp, 3, none⟩ = some (.int .i64 pb) ∧ Hid (PrZ w (.slice na ln nc) (.slice ma i mc) (.slice (some a) m pc) x gp pn (.slice o1 nu k1) (.slice o2 pvs k2) pb z') ∧ Hid (StrsAt z' (.slice o2 pvs k2) pvr))) := fun z z' hz hb => by
              obtain ⟨_, _, _, _, _, hz1, hz2⟩ := hz
              obtain ⟨y0, y1, y2, y3, y4, y5⟩ := (hz1.out.stays hb).spread
              exact ⟨y0, y1, y2, y3, y4, y5, hz2.out.stays hb⟩
            have KN : Hid (∀ z, (z.cell? ⟨w.heap.size, 0, none⟩ = some (.slice na ln nc) ∧ z.cell? ⟨w.heap.size, 1, none⟩ = some (.slice ma i mc) ∧ z.cell? ⟨w.heap.size, 2, none⟩ = some (.slice (some a) m pc) ∧ z.cell? ⟨gp, 2, none⟩ = some (.slice o2 pvs k2) ∧ z.cell? ⟨gp, 3, none⟩ = some (.int .i64 pb) ∧ Hid (PrZ w (.slice na ln nc) (.slice ma i mc) (.slice (some a) m pc) x gp pn (.slice o1 nu k1) (.slice o2 pvs k2) pb z) ∧ Hid (StrsAt z (.slice o2 pvs k2) pvr)) → NdsAt z (.slice na ln nc) x.nodes) := fun z hz => hz.2.2.2.2.2.1.out.pb.nds
            have KL : Hid (∀ z, (z.cell? ⟨w.heap.size, 0, none⟩ = some (.slice na ln nc) ∧ z.cell? ⟨w.heap.size, 1, none⟩ = some (.slice ma i mc) ∧ z.cell? ⟨w.heap.size, 2, none⟩ = some (.slice (some a) m pc) ∧ z.cell? ⟨gp, 2, none⟩ = some (.slice o2 pvs k2) ∧ z.cell? ⟨gp, 3, none⟩ = some (.int .i64 pb) ∧ Hid (PrZ w (.slice na ln nc) (.slice ma i mc) (.slice (some a) m pc) x gp pn (.slice o1 nu k1) (.slice o2 pvs k2) pb z) ∧ Hid (StrsAt z (.slice o2 pvs k2) pvr)) → StrsAt z (.slice o2 pvs k2) pvr) := fun z hz => hz.2.2.2.2.2.2.out
            have KV : Hid (∀ z, (z.cell? ⟨w.heap.size, 0, none⟩ = some (.slice na ln nc) ∧ z.cell? ⟨w.heap.size, 1, none⟩ = some (.slice ma i mc) ∧ z.cell? ⟨w.heap.size, 2, none⟩ = some (.slice (some a) m pc) ∧ z.cell? ⟨gp, 2, none⟩ = some (.slice o2 pvs k2) ∧ z.cell? ⟨gp, 3, none⟩ = some (.int .i64 pb) ∧ Hid (PrZ w (.slice na ln nc) (.slice ma i mc) (.slice (some a) m pc) x gp pn (.slice o1 nu k1) (.slice o2 pvs k2) pb z) ∧ Hid (StrsAt z (.slice o2 pvs k2) pvr)) → PrZ w (.slice na ln nc) (.slice ma i mc) (.slice (some a) m pc) x gp pn (.slice o1 nu k1) (.slice o2 pvs k2) pb z) := fun z hz => hz.2.2.2.2.2.1.out
            have K0 : Hid (W4.drew.cell? ⟨w.heap.size, 0, none⟩ = some (.slice na ln nc) ∧ W4.drew.cell? ⟨w.heap.size, 1, none⟩ = some (.slice ma i mc) ∧ W4.drew.cell? ⟨w.heap.size, 2, none⟩ = some (.slice (some a) m pc) ∧ W4.drew.cell? ⟨gp, 2, none⟩ = some (.slice o2 pvs k2) ∧ W4.drew.cell? ⟨gp, 3, none⟩ = some (.int .i64 pb) ∧ Hid (PrZ w (.slice na ln nc) (.slice ma i mc) (.slice (some a) m pc) x gp pn (.slice o1 nu k1) (.slice o2 pvs k2) pb W4.drew) ∧ Hid (StrsAt W4.drew (.slice o2 pvs k2) pvr)) := by
              obtain ⟨y0, y1, y2, y3, y4, y5⟩ := (Z0.out.stays (Below.refl _ _).drew).spread
              exact ⟨y0, y1, y2, y3, y4, y5, SV.out.stays (Below.refl _ _).drew⟩
            clear Z0 SV
            go_region_held3 (fun z => z.cell? ⟨w.heap.size, 0, none⟩ = some (.slice na ln nc) ∧ z.cell? ⟨w.heap.size, 1, none⟩ = some (.slice ma i mc) ∧ z.cell? ⟨w.heap.size, 2, none⟩ = some (.slice (some a) m pc) ∧ z.cell? ⟨gp, 2, none⟩ = some (.slice o2 pvs k2) ∧ z.cell? ⟨gp, 3, none⟩ = some (.int .i64 pb) ∧ Hid (PrZ w (.slice na ln nc) (.slice ma i mc) (.slice (some a) m pc) x gp pn (.slice o1 nu k1) (.slice o2 pvs k2) pb z) ∧ Hid (StrsAt z (.slice o2 pvs k2) pvr)) (first | exact K0.out | exact KP.out _ _ (by assumption) hb4) ((first
              | (go_at_call 14; refine (CB2.out _ (KN.out _ (by assumption))).mono ?_; rintro e w4 ⟨rfl, hb4⟩)
              | (go_at_call 13; refine (unhide (CV _ (KL.out _ (by assumption)))).mono ?_; rintro e w4 ⟨rfl, hb4⟩)))
            all_goals (have D := hide (KV.out _ (by assumption)))
            all_goals
              go_wp2
              go_roundw
              case rel => exact ⟨j + 1, by omega, by rw [HTJ.out, HEQ.out, PHE.out], by go_num, D.out.pb⟩
              case measure => simp [intOf]; omega
          · have hu' : (0 : Int) < (nu : Int) := by omega
            have PHE := hide (PH.out.2 hu0)
            have s7 : ¬ 9223372036854775807 < q.size + 8 + pn.size + tu.size := by omega
            have CU2 := CU _ SU.out
            clear hu0 PH CU
            go_wp2_with fail
            refine (unhide CU2).mono ?_
            rintro e w5 ⟨rfl, ew5⟩
            subst ew5
            clear CU2 SU
            go_wp2_with fail
            obtain ⟨Q, eQ⟩ : ∃ Q, Q = q ++ ⟨#[112, 114, 111, 99, 101, 115, 115, 32]⟩ ++ pn ++ tu := ⟨_, rfl⟩
            have hQ : Q.size ≤ 900000000002000 := by
              rw [eQ]
              simp only [size_app]
              have e3 : (⟨#[112, 114, 111, 99, 101, 115, 115, 32]⟩ : ByteArray).size = 8 := rfl
              rw [e3]
              omega
            rw [← eQ] at PHE ⊢
            have s3 : ¬ 9223372036854775807 < Q.size + 3 := by omega
            have s4 : ¬ 9223372036854775807 < Q.size + 3 + tl.size := by omega
            have s5 : ¬ 9223372036854775807 < Q.size + 3 + tl.size + tb.size := by omega
            have s6 : ¬ 9223372036854775807 < Q.size + 3 + tl.size + tb.size + 3 := by omega
            clear eQ
            generalize wr.alloc (.cells #[.string pn, .slice o1 nu k1, .slice o2 pvs k2, .int .i64 pb] 51) = W4 at *
            obtain ⟨gp, egp⟩ : ∃ gp, wr.heap.size = gp := ⟨_, rfl⟩
            rw [egp] at Z0 ⊢
            clear egp d0 d1 d2 d3 c0 c1 c2
            have KP : Hid (∀ z z', (z.cell? ⟨w.heap.size, 0, none⟩ = some (.slice na ln nc) ∧ z.cell? ⟨w.heap.size, 1, none⟩ = some (.slice ma i mc) ∧ z.cell? ⟨w.heap.size, 2, none⟩ = some (.slice (some a) m pc) ∧ z.cell? ⟨gp, 2, none⟩ = some (.slice o2 pvs k2) ∧ z.cell? ⟨gp, 3, none⟩ = some (.int .i64 pb) ∧ Hid (PrZ w (.slice na ln nc) (.slice ma i mc) (.slice (some a) m pc) x gp pn (.slice o1 nu k1) (.slice o2 pvs k2) pb z) ∧ Hid (StrsAt z (.slice o2 pvs k2) pvr)) → Below z.heap.size z z' → (z'.cell? ⟨w.heap.size, 0, none⟩ = some (.slice na ln nc) ∧ z'.cell? ⟨w.heap.size, 1, none⟩ = some (.slice ma i mc) ∧ z'.cell? ⟨w.heap.size, 2, none⟩ = some (.slice (some a) m pc) ∧ z'.cell? ⟨gp, 2, none⟩ = some (.slice o2 pvs k2) ∧ z'.cell? ⟨gp, 3, none⟩ = some (.int .i64 pb) ∧ Hid (PrZ w (.slice na ln nc) (.slice ma i mc) (.slice (some a) m pc) x gp pn (.slice o1 nu k1) (.slice o2 pvs k2) pb z') ∧ Hid (StrsAt z' (.slice o2 pvs k2) pvr))) := fun z z' hz hb => by
              obtain ⟨_, _, _, _, _, hz1, hz2⟩ := hz
              obtain ⟨y0, y1, y2, y3, y4, y5⟩ := (hz1.out.stays hb).spread
              exact ⟨y0, y1, y2, y3, y4, y5, hz2.out.stays hb⟩
            have KN : Hid (∀ z, (z.cell? ⟨w.heap.size, 0, none⟩ = some (.slice na ln nc) ∧ z.cell? ⟨w.heap.size, 1, none⟩ = some (.slice ma i mc) ∧ z.cell? ⟨w.heap.size, 2, none⟩ = some (.slice (some a) m pc) ∧ z.cell? ⟨gp, 2, none⟩ = some (.slice o2 pvs k2) ∧ z.cell? ⟨gp, 3, none⟩ = some (.int .i64 pb) ∧ Hid (PrZ w (.slice na ln nc) (.slice ma i mc) (.slice (some a) m pc) x gp pn (.slice o1 nu k1) (.slice o2 pvs k2) pb z) ∧ Hid (StrsAt z (.slice o2 pvs k2) pvr)) → NdsAt z (.slice na ln nc) x.nodes) := fun z hz => hz.2.2.2.2.2.1.out.pb.nds
            have KL : Hid (∀ z, (z.cell? ⟨w.heap.size, 0, none⟩ = some (.slice na ln nc) ∧ z.cell? ⟨w.heap.size, 1, none⟩ = some (.slice ma i mc) ∧ z.cell? ⟨w.heap.size, 2, none⟩ = some (.slice (some a) m pc) ∧ z.cell? ⟨gp, 2, none⟩ = some (.slice o2 pvs k2) ∧ z.cell? ⟨gp, 3, none⟩ = some (.int .i64 pb) ∧ Hid (PrZ w (.slice na ln nc) (.slice ma i mc) (.slice (some a) m pc) x gp pn (.slice o1 nu k1) (.slice o2 pvs k2) pb z) ∧ Hid (StrsAt z (.slice o2 pvs k2) pvr)) → StrsAt z (.slice o2 pvs k2) pvr) := fun z hz => hz.2.2.2.2.2.2.out
            have KV : Hid (∀ z, (z.cell? ⟨w.heap.size, 0, none⟩ = some (.slice na ln nc) ∧ z.cell? ⟨w.heap.size, 1, none⟩ = some (.slice ma i mc) ∧ z.cell? ⟨w.heap.size, 2, none⟩ = some (.slice (some a) m pc) ∧ z.cell? ⟨gp, 2, none⟩ = some (.slice o2 pvs k2) ∧ z.cell? ⟨gp, 3, none⟩ = some (.int .i64 pb) ∧ Hid (PrZ w (.slice na ln nc) (.slice ma i mc) (.slice (some a) m pc) x gp pn (.slice o1 nu k1) (.slice o2 pvs k2) pb z) ∧ Hid (StrsAt z (.slice o2 pvs k2) pvr)) → PrZ w (.slice na ln nc) (.slice ma i mc) (.slice (some a) m pc) x gp pn (.slice o1 nu k1) (.slice o2 pvs k2) pb z) := fun z hz => hz.2.2.2.2.2.1.out
            have K0 : Hid (W4.drew.cell? ⟨w.heap.size, 0, none⟩ = some (.slice na ln nc) ∧ W4.drew.cell? ⟨w.heap.size, 1, none⟩ = some (.slice ma i mc) ∧ W4.drew.cell? ⟨w.heap.size, 2, none⟩ = some (.slice (some a) m pc) ∧ W4.drew.cell? ⟨gp, 2, none⟩ = some (.slice o2 pvs k2) ∧ W4.drew.cell? ⟨gp, 3, none⟩ = some (.int .i64 pb) ∧ Hid (PrZ w (.slice na ln nc) (.slice ma i mc) (.slice (some a) m pc) x gp pn (.slice o1 nu k1) (.slice o2 pvs k2) pb W4.drew) ∧ Hid (StrsAt W4.drew (.slice o2 pvs k2) pvr)) := by
              obtain ⟨y0, y1, y2, y3, y4, y5⟩ := (Z0.out.stays (Below.refl _ _).drew).spread
              exact ⟨y0, y1, y2, y3, y4, y5, SV.out.stays (Below.refl _ _).drew⟩
            clear Z0 SV
            go_region_held3 (fun z => z.cell? ⟨w.heap.size, 0, none⟩ = some (.slice na ln nc) ∧ z.cell? ⟨w.heap.size, 1, none⟩ = some (.slice ma i mc) ∧ z.cell? ⟨w.heap.size, 2, none⟩ = some (.slice (some a) m pc) ∧ z.cell? ⟨gp, 2, none⟩ = some (.slice o2 pvs k2) ∧ z.cell? ⟨gp, 3, none⟩ = some (.int .i64 pb) ∧ Hid (PrZ w (.slice na ln nc) (.slice ma i mc) (.slice (some a) m pc) x gp pn (.slice o1 nu k1) (.slice o2 pvs k2) pb z) ∧ Hid (StrsAt z (.slice o2 pvs k2) pvr)) (first | exact K0.out | exact KP.out _ _ (by assumption) hb4) ((first
              | (go_at_call 14; refine (CB2.out _ (KN.out _ (by assumption))).mono ?_; rintro e w4 ⟨rfl, hb4⟩)
              | (go_at_call 13; refine (unhide (CV _ (KL.out _ (by assumption)))).mono ?_; rintro e w4 ⟨rfl, hb4⟩)))
            all_goals (have D := hide (KV.out _ (by assumption)))
            all_goals
              go_wp2
              go_roundw
              case rel => exact ⟨j + 1, by omega, by rw [HTJ.out, HEQ.out, PHE.out], by go_num, D.out.pb⟩
              case measure => simp [intOf]; omega
        · have ej : j = m := by omega
          subst ej
          have HEJ : Hid (x.pros.take j = x.pros) := List.take_of_length_le (by rw [EM.out]; exact Nat.le_refl _)
          rw [HEJ.out] at hps hpl ⊢
          have HTM : Hid (shwT T x = x.pros.foldl (prcT T) s0 ++ ⟨#[46]⟩) := by rw [ES0.out]; rfl
          obtain ⟨q2, eq2⟩ : ∃ q2, q2 = x.pros.foldl (prcT T) s0 := ⟨_, rfl⟩
          rw [← eq2] at hps HTM ⊢
          have s1 : ¬ 9223372036854775807 < q2.size + 1 := by omega
          have hz : (shwT T x).size = q2.size + 1 := by rw [HTM.out, size_app]; rfl
          have HB := hide HPJ.out.bel
          clear eq2
          by_cases hl : q2.size + 1 ≤ 1500
          · have hl' : ¬ (1500 : Int) < (q2.size : Int) + 1 := by omega
            have HR : Hid (showP x = (shwT T x, true)) := by show _ = _; rw [HE.out, if_pos (by omega)]
            clear hz hps hpl hl
            go_wp2
            go_ret2
            exact ⟨by rw [HR.out, HTM.out]; rfl, HB.out⟩
          · have hl' : (1500 : Int) < (q2.size : Int) + 1 := by omega
            have HR : Hid (showP x = (ByteArray.empty, false)) := by show _ = _; rw [HE.out, if_neg (by omega)]
            clear hz hps hpl hl
            go_wp2
            go_ret2
            exact ⟨by rw [HR.out]; rfl, HB.out⟩

/-- ShowProgram, by the specification. -/
theorem specShow_any (nv mv pv : Value) (x : Pg) (w : World) (hN : NdsAt w nv x.nodes) (hM : MosAt w mv x.mons) (hP : PrsAt w pv x.pros) (hL : PgLen x) (hin : NsIn x.nodes) (hmi : ∀ m ∈ x.mons, MoIn m) (hpi : ∀ p ∈ x.pros, PrIn p) (hkl : (allKids x.nodes).length ≤ 1048576) (hbl : (bodiesL x.mons x.pros).length ≤ 1048576) :
    Calls Tryz.prog 5 #[.agg #[nv, mv, pv]] w fun e w' => e = .returned (.tuple #[.string (showP x).1, .bool (showP x).2]) ∧ Below w.heap.size w w' := by
  cases hw : specProgB x with
  | false => exact specShow_wrong nv mv pv x w hN hM hP hL hin hmi hpi hkl hbl hw
  | true =>
    have h := hw
    simp only [specProgB, listsB, Bool.and_eq_true, decide_eq_true_eq, List.all_eq_true (p := monB), List.all_eq_true (p := procB), inZ] at h
    obtain ⟨⟨h1, ⟨⟨h2, h3⟩, h4, h5⟩⟩, h6, h7, _⟩ := h
    have hR := rightT_of h6
    have hbd : ∀ b ∈ bodiesL x.mons x.pros, ∃ k : Nat, b = (k : Int) ∧ k < x.nodes.length ∧ (x.nodes.getD k default).kind = 20 := fun b hb => by
      have := List.all_eq_true.1 h7 b hb
      simp only [bodyQ, Bool.and_eq_true, inZ, decide_eq_true_eq] at this
      exact ⟨b.toNat, by omega, by omega, this.2⟩
    have hsz : ∀ b ∈ bodiesL x.mons x.pros, (joinS (shS x.nodes 10 b.toNat)).size ≤ 60000000000000 := fun b hb => by
      obtain ⟨k, rfl, hk, _⟩ := hbd b hb
      rw [Int.toNat_natCast]
      have q1 := joinS_size (shS x.nodes 10 k)
      have q2 := shS_size hR 10 k hk (hR.deep k hk).2
      rw [Lb_ten] at q2
      omega
    refine specShow_right nv mv pv x _ ⟨fun m hm => ⟨h2 m hm, fun e he => hsz _ (List.mem_append_left _ (List.mem_flatMap.2 ⟨m, hm, List.mem_map.2 ⟨e, he, rfl⟩⟩))⟩, fun p hp => ⟨h3 p hp, hsz _ (List.mem_append_right _ (List.mem_map.2 ⟨p, hp, rfl⟩))⟩, by omega, by omega⟩ (fun y hy => ?_) w hN hM hP hL hin hmi hpi hkl hbl hw rfl
    obtain ⟨k, rfl, hk, hkd⟩ := hbd y hy
    intro z hz
    rw [Int.toNat_natCast]
    exact l07Block_any hR hL.nl nv mv pv 10 (Nat.le_refl _) k z hk (hR.deep k hk).2 hkd hz
end Go.Proofs.YtdfahpachbhglaaGreatDoor
