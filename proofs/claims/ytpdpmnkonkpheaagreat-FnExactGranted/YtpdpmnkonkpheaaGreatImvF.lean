/-
  Walks of the program: the nodes under a node, in a tree that is right.
-/
import Derived.Test.YtpdpmnkonkpheaaGreatTreeV
import Derived.Test.YtpdpmnkonkpheaaGreatPureP
import Derived.Test.YtpdpmnkonkpheaaGreatAid
import Derived.Test.YtpdpmnkonkpheaaGreatChecked
import Derived.Maps.OwnSet
import Derived.BigQuiet
import Derived.WalkSmall
namespace Go.Proofs.YtpdpmnkonkpheaaGreat
open Go.RowKit

/-- The node at k and all below it, marked among those up to it. -/
def undI (ns : List Nd) (k : Nat) : List Bool := undL ns (k + 1) k
/-- The places that are marked among the first i. -/
def plTo (u : List Bool) (i : Nat) : List Int := ((List.range i).filter fun j => u.getD j false).map fun j : Nat => (j : Int)
theorem plTo_yes {u : List Bool} {i : Nat} (h : u.getD i false = true) : plTo u (i + 1) = plTo u i ++ [(i : Int)] := by
  unfold plTo
  rw [List.range_succ, List.filter_append, List.map_append]
  congr 1
  have e : List.filter (fun j => u.getD j false) [i] = [i] := by rw [List.filter_cons, h]; rfl
  rw [e]
  rfl
theorem plTo_no {u : List Bool} {i : Nat} (h : u.getD i false = false) : plTo u (i + 1) = plTo u i := by
  unfold plTo
  have e : List.filter (fun j => u.getD j false) [i] = [] := by rw [List.filter_cons, h]; rfl
  rw [List.range_succ, List.filter_append, e, List.append_nil]
theorem plTo_len (u : List Bool) (i : Nat) : (plTo u i).length ≤ i := by
  unfold plTo
  rw [List.length_map]
  have := List.length_filter_le (fun j => u.getD j false) (List.range i)
  rw [List.length_range] at this
  exact this
theorem ownsRow_low {a b : Nat} {e : TypeId} {s n : Nat} {v : Value} {l : List Value} {w : World} (h : w.ownsRow b e s v n l) (hab : a ≤ b) : w.ownsRow a e s v n l := by
  obtain ⟨h1, h2⟩ := h
  refine ⟨h1, ?_⟩
  rcases h2 with h2 | ⟨g, cap, cur, rfl, hb1, r⟩
  · exact .inl h2
  · exact .inr ⟨g, cap, cur, rfl, Nat.le_trans hab hb1, r⟩
def NuR (base : Nat) (W3 : World) (u : List Bool) (n : Nat) (v iv : Value) (wr : World) : Prop :=
  ∃ i : Nat, i ≤ n ∧ iv = .int .i64 i ∧ Hid (wr.ownsRow base 3 1 v (plTo u i).length ((plTo u i).map I64)) ∧ Hid (Below W3.heap.size W3 wr)

set_option maxRecDepth 100000 in
set_option maxHeartbeats 4000000 in
theorem nodesUnder_any (nv mv pv : Value) (ns : List Nd) (k : Nat) (w : World) (hN : NdsAt w nv ns) (hM : SlV mv) (hP : SlV pv) (hR : NdsRoom w nv ns.length) (hk : k < ns.length) (hl : ns.length ≤ 1048576) (hkx : ∀ x ∈ ns, x.kids.length ≤ 1048576)
    (hall : ∀ (j : Nat) (hj : j < ns.length), nodeB ns[j] (kinds ns j) = true) (hK : KidsLow ns) (hD : (deepsTo ns (k + 1)).getD k 0 ≠ 0) :
    Calls Tryz.prog 74 #[.agg #[nv, mv, pv], .int .i64 (k : Int)] w fun e w' => ∃ v, e = .returned v ∧ w'.ownsRow w.heap.size 3 1 v (plTo (undI ns k) (k + 1)).length ((plTo (undI ns k) (k + 1)).map I64) ∧ Below w.heap.size w w' := by
  have hb1 : Below w.heap.size w (w.alloc (.cells #[nv, mv, pv] 33)) := (Below.refl _ _).alloc (Nat.le_refl _) _
  have HN := hide (hN.stays hb1)
  have HRM := hide (hR.stays hb1)
  have HX := hide (Boxed.made w nv mv pv 33)
  have HB := hide hb1
  have CD := fun z h1 h2 => hide (deepOf_in nv mv pv ns k z h1 h2 hk hl hkx hall)
  clear hb1
  obtain ⟨ao, c, rfl, _⟩ := hN
  obtain ⟨mo, mn, mc, rfl⟩ := hM
  obtain ⟨po, pn, pc, rfl⟩ := hP
  have HKX := hide hkx
  have HK := hide hK
  have HKN := hide hk
  clear hkx hK hall
  obtain ⟨dd, edd⟩ : ∃ dd, (deepsTo ns (k + 1)).getD k 0 = dd := ⟨_, rfl⟩
  rw [edd] at CD hD
  have hdd : (dd == 0) = false := by simpa using hD
  clear edd
  obtain ⟨n, en⟩ : ∃ n, k + 1 = n := ⟨_, rfl⟩
  have EN := hide en
  have hkn' : k < n := by omega
  have hn : n ≤ 1048576 := by omega
  have HUI : Hid (undL ns n k = undI ns k) := by show _ = _; rw [undI, EN.out]
  rw [en]
  obtain ⟨UR, eUR⟩ : ∃ UR, undI ns k = UR := ⟨_, rfl⟩
  rw [eUR] at HUI ⊢
  clear eUR en
  go_enter Tryz.func74, Tryz.ntmps74
  go_wp2_with fail
  refine (unhide (CD _ HN.out HRM.out)).mono ?_
  rintro e W1 ⟨rfl, hb1⟩
  have HX1 := hide (HX.out.stays hb1)
  have HN1 := hide (HN.out.stays hb1)
  have HB1 := hide (HB.out.trans (hb1.mono HB.out.size))
  clear hb1 HX HN HB HRM CD hR
  obtain ⟨i0, hi, hz0, hz1, hz2⟩ := info_parts (Tryz.infoBool)
  obtain ⟨wm, hmk, hown, hgr⟩ := run_make_full (P := Tryz.prog) W1 W1.heap.size 102 4 i0 (.bool false) 1 Tryz.underlying102 hi hz0 hz1 .i64 .i64 n (by rw [hz2]; omega) (by unfold maxLen; omega) (Nat.le_refl _)
  have OW : Hid (UndZ W1 n (List.replicate n false) wm) := by
    have e := made_flat [.bool false] (by decide) n
    simp only [List.length_singleton] at e
    refine ⟨?_, (Below.refl _ _).grown hgr (Nat.le_refl _) (fun k hk => by cases hk), by simp⟩
    rw [← flat_oneB, ← e]
    exact hown
  have OW1 := hide (OW.out.step k)
  have hk0 : (0 : Int) ≤ (k : Int) := by omega
  have hkn : (k : Int) < (n : Int) := by omega
  obtain ⟨q0, f0⟩ := OW.out.cell hkn'
  clear hown hgr hi hz0 hz1 hz2
  have hnk : ((n : Nat) : Int) = (k : Int) + 1 := by have := EN.out; omega
  rw [hnk] at hmk
  clear hnk
  go_wp2
  clear q0 f0 hmk
  go_loopw [6] (fun iv wr => UndO W1 ns n k UR iv wr) (fun iv _ => (intOf iv + 1).toNat)
  case atStart => exact ⟨k + 1, _, Nat.le_refl _, by simp, OW1.out, HUI.out⟩
  case round =>
    clear OW1 OW
    obtain ⟨m, u, hm, rfl, HU, HR⟩ := hrel
    cases m with
    | zero =>
      have HF : Hid (u = UR) := HR.out
      rw [HF.out] at HU
      obtain ⟨W3, eW⟩ : ∃ W3, W3 = wr := ⟨_, rfl⟩
      subst eW
      clear HF HR
      have HB3 := hide (HB1.out.trans (HU.out.bel.mono HB1.out.size))
      have em1 : ((0 : Nat) : Int) - 1 = -1 := rfl
      rw [em1]
      clear em1
      go_wp2
      go_loopw [9, 51] (NuR W3.heap.size W3 UR n) (fun _ iv _ => n - (intOf iv).toNat)
      case atStart => exact ⟨0, by omega, rfl, ownsRow_empty W3 W3.heap.size 3 (Nat.le_refl _), (Below.refl _ _).alloc (Nat.le_refl _) _⟩
      case round =>
        obtain ⟨i, hi, rfl, HO, HB4⟩ := hrel
        by_cases hlt : i < n
        · have hlt' : (i : Int) < (n : Int) := by omega
          have hi0 : (0 : Int) ≤ (i : Int) := by omega
          have hq := (HB4.out.cell (p := ⟨W1.heap.size, i, none⟩) (HU.out.own.lt W1.heap.size rfl).2).trans (HU.out.cell hlt).1
          have hpl := plTo_len UR i
          cases hui : UR.getD i false with
          | false =>
            rw [hui] at hq
            have HPN := hide (plTo_no hui)
            clear hui hpl
            go_wp2
            go_roundw
            case rel => exact ⟨i + 1, by omega, by go_num, by rw [HPN.out]; exact HO.out, HB4.out⟩
            case measure => simp [intOf]; omega
          | true =>
            rw [hui] at hq
            have HPN := hide (plTo_yes hui)
            have hwz : W3.heap.size ≤ wr.heap.size := HB4.out.size
            have HWZ : Hid (w.heap.size ≤ wr.heap.size) := Nat.le_trans HB3.out.size hwz
            clear hui
            obtain ⟨L, eL⟩ : ∃ L, plTo UR i = L := ⟨_, rfl⟩
            rw [eL] at HO HPN hpl
            clear eL
            go_wp2_with (at_builtin; refine wpList_app1 rfl (.tmp 57) (.tmp 59) 41 rfl W3.heap.size 3 (.int .i64 0) 8 Tryz.underlying41 Tryz.infoInt rfl _ _ _ _ rfl HO.out rfl rfl (by unfold maxLen; omega) (by omega) hwz ?_)
            intro v5 w5 hown5 hb5
            have HO5 : Hid (w5.ownsRow W3.heap.size 3 1 v5 (plTo UR (i + 1)).length ((plTo UR (i + 1)).map I64)) := by
              rw [HPN.out, List.map_append, List.length_append]
              exact hown5
            have HB5 : Hid (Below W3.heap.size W3 w5) := HB4.out.trans hb5
            clear hown5 hb5 hq
            have RR : NuR W3.heap.size W3 UR n v5 (.int .i64 ((i : Int) + 1)) w5 := ⟨i + 1, by omega, by go_num, HO5.out, HB5.out⟩
            go_wp2
            go_roundw
            case rel => exact RR
            case measure => simp [intOf]; omega
        · have hlt' : ¬ (i : Int) < (n : Int) := by omega
          have e9 : i = n := by omega
          subst e9
          go_wp2
          go_ret
          exact ⟨_, rfl, ownsRow_low HO.out HB3.out.size, HB3.out.trans (HB4.out.mono HB3.out.size)⟩
    | succ i =>
      have ei : ((i + 1 : Nat) : Int) - 1 = (i : Int) := by omega
      rw [ei]
      have hin : i < n := by omega
      have hi0 : (0 : Int) ≤ (i : Int) := by omega
      have hi1 : (i : Int) < (n : Int) := by omega
      have hix : i < ns.length := by have := HKN.out; omega
      have hin2 : (i : Int) < (ns.length : Int) := by omega
      have HG : Hid (ns.getD i default = ns[i]) := by show _ = _; rw [List.getD_eq_getElem?_getD, List.getElem?_eq_getElem hix]; rfl
      have HKK : Hid (∀ y ∈ ns[i].kids, 0 ≤ y ∧ y < (n : Int)) := fun y hy => by
        have := HK.out i y (by rw [HG.out]; exact hy)
        omega
      have hkl := HKX.out _ (List.getElem_mem hix)
      have HUS : Hid (undF ns (undS ns u i) i = UR) := HR.out
      obtain ⟨x, ex⟩ : ∃ x, ns[i] = x := ⟨_, rfl⟩
      have EX := hide ex
      rw [ex] at HKK hkl HG
      obtain ⟨kl, ekl⟩ : ∃ kl, x.kids.length = kl := ⟨_, rfl⟩
      have EKL := hide ekl
      rw [ekl] at hkl
      clear ex ekl ei HR
      obtain ⟨q0, f0⟩ := HU.out.cell hin
      cases hui : u.getD i false with
      | false =>
        have HS2 : Hid (undS ns u i = u) := by show _ = _; rw [undS, hui]; rfl
        rw [hui] at q0
        clear hui
        go_wp2
        go_roundw
        case rel => exact ⟨i, u, by omega, by go_num, HU.out, by rw [← HS2.out]; exact HUS.out⟩
        case measure => simp [intOf]; try omega
      | true =>
        have HS2 : Hid (undS ns u i = markK u x.kids) := by show _ = _; rw [undS, hui, HG.out]; rfl
        rw [hui] at q0
        clear hui
        obtain ⟨c0, c1, c2, _⟩ := HX1.out.stays HU.out.bel
        obtain ⟨a', cc', p, kv, e5, hpa, hpb, hnode⟩ := HN1.out.node i hix
        injection e5 with e6 e7 e8
        subst e6
        have HKI := hide hnode.kids
        have d5 := (hnode.stays HU.out.bel hpb).c5
        rw [EX.out] at HKI
        obtain ⟨ko, kc, rfl, _⟩ := HKI.out
        rw [EKL.out] at d5 HKI
        clear hnode e7 e8
        go_wp2
        clear c0 c1 c2 q0 f0 d5
        go_loopw [40] (fun jv z => UndI W1 n u x.kids jv z) (fun jv _ => kl - (intOf jv).toNat)
        case atStart => exact ⟨0, by omega, rfl, HU.out⟩
        case round =>
          clear HU
          obtain ⟨j, hj, rfl, HV⟩ := hrel
          rw [EKL.out] at hj
          by_cases hltj : j < kl
          · have hltj' : (j : Int) < (kl : Int) := by omega
            have hj0 : (0 : Int) ≤ (j : Int) := by omega
            have hjx : j < x.kids.length := by rw [EKL.out]; exact hltj
            obtain ⟨ko', kc', e5, hkc⟩ := HKI.out.stays HV.out.bel
            injection e5 with e6 e7 e8
            subst e6
            obtain ⟨b, rfl, _, hy⟩ := hkc j hjx
            have HT : Hid (markK u (x.kids.take (j + 1)) = (markK u (x.kids.take j)).set x.kids[j].toNat true) := by
              show _ = _
              rw [List.take_succ_eq_append_getElem hjx, markK_snoc]
            obtain ⟨hy0, hy1⟩ := HKK.out _ (List.getElem_mem hjx)
            obtain ⟨t, ht⟩ : ∃ t : Nat, x.kids[j] = (t : Int) := ⟨x.kids[j].toNat, by omega⟩
            rw [ht] at hy HT hy0 hy1
            rw [Int.toNat_natCast] at HT
            have htn : t < n := by omega
            obtain ⟨r0, g0⟩ := HV.out.cell htn
            have HST := hide (HV.out.step t)
            clear hkc ht e7 e8
            go_wp2
            go_roundw
            case rel => exact ⟨j + 1, by rw [EKL.out]; omega, by go_num, by rw [HT.out]; exact HST.out⟩
            case measure => simp [intOf]; omega
          · have hltj' : ¬ (j : Int) < (kl : Int) := by omega
            have HE : Hid (x.kids.take j = x.kids) := List.take_of_length_le (by rw [EKL.out]; omega)
            rw [HE.out] at HV
            go_wp2
            go_roundw
            case rel => exact ⟨i, markK u x.kids, by omega, by go_num, HV.out, by rw [← HS2.out]; exact HUS.out⟩
            case measure => simp [intOf]; try omega
end Go.Proofs.YtpdpmnkonkpheaaGreat

namespace Go.Proofs.YtpdpmnkonkpheaaGreat
open Go.RowKit

/-- The word that stands for what comes out of an entry. -/
def resultN : ByteArray := ⟨#[114, 101, 115, 117, 108, 116]⟩
/-- No two are the same, and none is that word. -/
noncomputable def unlikeB (xs : List ByteArray) : Bool := @decide (xs.Nodup ∧ resultN ∉ xs) (Classical.propDecidable _)
theorem unlike_nil : unlikeB [] = true := by simp [unlikeB]
theorem unlike_snoc (ys : List ByteArray) (x : ByteArray) : unlikeB (ys ++ [x]) = true ↔ unlikeB ys = true ∧ x ≠ resultN ∧ x ∉ ys := by
  simp only [unlikeB, decide_eq_true_eq, List.nodup_append, List.mem_append, List.mem_singleton]
  constructor
  · rintro ⟨⟨h1, _, h3⟩, h4⟩
    exact ⟨⟨h1, fun h => h4 (Or.inl h)⟩, fun e => h4 (Or.inr e.symm), fun h => h3 x h x rfl rfl⟩
  · rintro ⟨⟨h1, h2⟩, h3, h4⟩
    refine ⟨⟨h1, by simp, fun a ha b hb e => ?_⟩, fun h => ?_⟩
    · subst hb; subst e; exact h4 ha
    · rcases h with h | h
      · exact h2 h
      · exact h3 h.symm
theorem unlike_perm {xs ys : List ByteArray} (h : xs.Perm ys) : unlikeB xs = unlikeB ys := by
  unfold unlikeB
  exact decide_eq_decide.2 (and_congr h.nodup_iff (not_congr h.mem_iff))
theorem unlike_take {xs : List ByteArray} {i : Nat} (h : unlikeB (xs.take i) = false) : unlikeB xs = false := by
  rw [Bool.eq_false_iff] at h ⊢
  intro h2
  apply h
  simp only [unlikeB, decide_eq_true_eq] at h2 ⊢
  exact ⟨h2.1.sublist (List.take_sublist i xs), fun q => h2.2 (List.mem_of_mem_take q)⟩
theorem unlike_step {xs : List ByteArray} {i : Nat} (hi : i < xs.length) (h : unlikeB (xs.take i) = true) (h1 : xs[i] ≠ resultN) (h2 : xs[i] ∉ xs.take i) : unlikeB (xs.take (i + 1)) = true := by
  rw [List.take_succ_eq_append_getElem hi]
  exact (unlike_snoc _ _).2 ⟨h, h1, h2⟩
theorem unlike_stop {xs : List ByteArray} {i : Nat} (hi : i < xs.length) (h : xs[i] = resultN ∨ xs[i] ∈ xs.take i) : unlikeB xs = false := by
  apply unlike_take (i := i + 1)
  rw [List.take_succ_eq_append_getElem hi, Bool.eq_false_iff]
  intro q
  obtain ⟨_, q1, q2⟩ := (unlike_snoc _ _).1 q
  rcases h with h | h
  · exact q1 h
  · exact q2 h
theorem mem_take_of {xs : List ByteArray} {i k : Nat} (hk : k < i) (hx : k < xs.length) : xs[k] ∈ xs.take i :=
  List.mem_take_iff_getElem.2 ⟨k, by omega, rfl⟩
theorem not_mem_take {xs : List ByteArray} {i : Nat} {x : ByteArray} (h : ∀ j, j < i → xs[j]? ≠ some x) : x ∉ xs.take i := by
  intro q
  obtain ⟨j, hj, e⟩ := List.mem_take_iff_getElem.1 q
  exact h j (by omega) (by rw [List.getElem?_eq_getElem (by omega), e])
/-- Is the name among these? -/
def memB (ks : List ByteArray) (s : ByteArray) : Bool := ks.any fun x => decide (x = s)
theorem memB_iff {ks : List ByteArray} {s : ByteArray} : memB ks s = true ↔ s ∈ ks := by
  rw [memB, List.any_eq_true]
  exact ⟨fun ⟨x, h, e⟩ => of_decide_eq_true e ▸ h, fun h => ⟨s, h, decide_eq_true rfl⟩⟩
theorem memB_no {ks : List ByteArray} {s : ByteArray} : memB ks s = false ↔ s ∉ ks := by
  rw [Bool.eq_false_iff]
  exact not_congr memB_iff
theorem memB_congr {ks ls : List ByteArray} {s t : ByteArray} (h : s ∈ ks ↔ t ∈ ls) : memB ks s = memB ls t := Bool.eq_iff_iff.2 (memB_iff.trans (h.trans memB_iff.symm))
end Go.Proofs.YtpdpmnkonkpheaaGreat

namespace Go.Proofs.YtpdpmnkonkpheaaGreat
open Go.RowKit Go.Maps
open Go.WideMaps (keyOf_string_mk)

/-- A set of just these names, in a block of its own. -/
def SetAt (w : World) (b n : Nat) (ks : List ByteArray) : Prop :=
  ∃ D, w.ownsMap Tryz.prog 9 (unitElem (H := Unit)) b n D ∧ ∀ s : ByteArray, Maps.has D (.string s.data.toList) = memB ks s
theorem lawN : Keyed Tryz.prog 9 := string_keyed Tryz.underlying9
theorem zeroN (w : World) : (zeroValue 135).run Tryz.prog w = .ok (.agg #[]) w := by kernel_rfl
theorem SetAt.made (w : World) : SetAt (w.alloc (.map #[] 0)) w.heap.size 0 [] := ⟨_, World.ownsMap_made _ _ _ _, fun _ => rfl⟩
theorem SetAt.lt {w : World} {b n : Nat} {ks : List ByteArray} (h : SetAt w b n ks) : b < w.heap.size := by
  obtain ⟨D, h1, _⟩ := h
  exact h1.lt
theorem SetAt.kept {w w' : World} {b n : Nat} {ks : List ByteArray} {row : Option Nat} (h : SetAt w b n ks) (hg : w.grownBy w' row) (hne : some b ≠ row) : SetAt w' b n ks := by
  obtain ⟨D, h1, h2⟩ := h
  exact ⟨D, h1.kept hg hne, h2⟩
theorem SetAt.stays {w w' : World} {b n k : Nat} {ks : List ByteArray} (h : SetAt w b n ks) (hb : Below k w w') (hk : b < k) : SetAt w' b n ks := by
  obtain ⟨D, ⟨es, cl, q1, q2⟩, h2⟩ := h
  exact ⟨D, ⟨es, cl, (hb.block b hk).trans q1, q2⟩, h2⟩
theorem SetAt.mono {w : World} {b n m : Nat} {ks : List ByteArray} (h : SetAt w b n ks) (hn : n ≤ m) : SetAt w b m ks := by
  obtain ⟨D, h1, h2⟩ := h
  exact ⟨D, h1.mono hn, h2⟩
theorem SetAt.same {w : World} {b n : Nat} {ks ls : List ByteArray} (h : SetAt w b n ks) (e : ∀ s, s ∈ ks ↔ s ∈ ls) : SetAt w b n ls := by
  obtain ⟨D, h1, h2⟩ := h
  exact ⟨D, h1, fun s => (h2 s).trans (memB_congr (e s))⟩
theorem lit_ne {s t : ByteArray} (h : s ≠ t) : Lit.string s.data.toList ≠ Lit.string t.data.toList := fun e => h (ByteArray.ext (Array.toList_inj.1 (Lit.string.inj e)))
theorem has_more {D : DataW Unit} {ks : List ByteArray} (hD : IsMap D) (h : ∀ s : ByteArray, Maps.has D (.string s.data.toList) = memB ks s) (t s : ByteArray) :
    Maps.has (D.put (.string t.data.toList) (.agg [])) (.string s.data.toList) = memB (ks ++ [t]) s := by
  by_cases e : s = t
  · subst e
    rw [has_put_same hD (show WideAt.IsKeyLit (.string s.data.toList) from trivial)]
    exact (memB_iff.2 (by simp)).symm
  · rw [has_put_other (lit_ne e), h s]
    exact memB_congr (by simp [e])
theorem has_less {D : DataW Unit} {ks : List ByteArray} (h : ∀ s : ByteArray, Maps.has D (.string s.data.toList) = memB ks s) (t s : ByteArray) :
    Maps.has (D.del (.string t.data.toList)) (.string s.data.toList) = memB (ks.filter fun x => !decide (x = t)) s := by
  by_cases e : s = t
  · subst e
    rw [has_del_same]
    exact (memB_no.2 (by simp)).symm
  · rw [has_del_other (lit_ne e), h s]
    exact memB_congr (by simp [e])

set_option maxRecDepth 100000 in
set_option maxHeartbeats 1000000 in
theorem setHas_any (b n : Nat) (ks : List ByteArray) (s : ByteArray) (w : World) (h : SetAt w b n ks) (hs : s.size ≤ 1048576) :
    Calls Tryz.prog 92 #[.map (some b), .string s] w fun e w' => e = .returned (.bool (memB ks s)) ∧ Below w.heap.size w w' := by
  obtain ⟨D, h1, h2⟩ := h
  have H2 := hide (h2 s)
  clear h2
  go_enter Tryz.func92, Tryz.ntmps92
  go_wp2_with (at_lookup; refine wpList_lookup_own_unit _ rfl _ _ 84 rfl 9 135 lawN Tryz.underlying84 (zeroN _) b n D rfl h1 _ _ rfl (keyOf_string_mk Tryz.underlying9 (by unfold maxLen; omega)) ?_; rw [H2.out])
  go_ret
  exact ⟨rfl, (Below.refl _ _).alloc (Nat.le_refl _) _⟩

set_option maxRecDepth 100000 in
set_option maxHeartbeats 1000000 in
theorem setEnter_any (b n : Nat) (ks : List ByteArray) (s : ByteArray) (w : World) (h : SetAt w b n ks) (hn : n ≤ 4194304) (hs : s.size ≤ 1048576) :
    Calls Tryz.prog 72 #[.map (some b), .string s] w fun e w' => e = .returned (.tuple #[]) ∧ SetAt w' b (n + 1) (ks ++ [s]) ∧ w.grownBy w' (some b) := by
  obtain ⟨D, h1, h2⟩ := h
  have H2 := hide (fun t => has_more h1.isMap h2 s t)
  clear h2
  go_enter Tryz.func72, Tryz.ntmps72
  go_wp2_with (at_mapUpdate; refine wpList_mapUpdate_own _ rfl _ _ _ 84 rfl 9 135 lawN Tryz.underlying84 _ b n D rfl h1 (by unfold maxLen; omega) _ _ _ rfl rfl (keyOf_string_mk Tryz.underlying9 (by unfold maxLen; omega)) _ [] unitElem_mk ?_; intro w1 hown1 hgrow1)
  go_end0
  exact ⟨rfl, ⟨_, hown1, H2.out⟩, hgrow1⟩

theorem grown_below {B b : Nat} {w0 w w' : World} (h : Below B w0 w) (hg : w.grownBy w' (some b)) (hB : B ≤ w.heap.size) (hb : B ≤ b) : Below B w0 w' := h.grown hg hB (fun j hj => by cases hj; exact hb)

/-- How things stand while names are entered: the set, what was there. -/
def NmA (w W : World) (b m : Nat) (xs : List ByteArray) (iv : Value) (wr : World) : Prop := ∃ i : Nat, i ≤ xs.length ∧ iv = .int .i64 i ∧ Hid (SetAt wr b (m + i) (xs.take i)) ∧ Hid (Below W.heap.size w wr)

set_option maxRecDepth 100000 in
set_option maxHeartbeats 2000000 in
theorem namesIn_any (v : Value) (xs : List ByteArray) (w : World) (h : StrsAt w v xs) (hl : xs.length ≤ 1048576) (hs : ∀ x ∈ xs, x.size ≤ 1048576) :
    Calls Tryz.prog 71 #[v] w fun e w' => e = .returned (.map (some w.heap.size)) ∧ SetAt w' w.heap.size xs.length xs ∧ Below w.heap.size w w' := by
  have hmm := @run_makeMap Tryz.prog
  have H0 := hide (SetAt.made w)
  have HB0 : Hid (Below w.heap.size w (w.alloc (.map #[] 0))) := (Below.refl _ _).alloc (Nat.le_refl _) _
  have H := hide h
  have CE := fun n ks s W h hn hs => hide (setEnter_any w.heap.size n ks s W h hn hs)
  obtain ⟨ao, c, rfl, _⟩ := h
  obtain ⟨n, en⟩ : ∃ n, xs.length = n := ⟨_, rfl⟩
  have EN := hide en
  have HS := hide hs
  rw [en] at H hl ⊢
  clear en hs
  go_enter Tryz.func71, Tryz.ntmps71
  go_wp2
  go_loopw [9] (fun iv wr => NmA w w w.heap.size 0 xs iv wr) (fun iv _ => n - (intOf iv).toNat)
  case atStart => exact ⟨0, by omega, rfl, H0.out, HB0.out⟩
  case round =>
    obtain ⟨i, hi, rfl, HM, HB⟩ := hrel
    rw [EN.out] at hi
    by_cases hlt : i < n
    · have hlt' : (i : Int) < (n : Int) := by omega
      have hi0 : (0 : Int) ≤ (i : Int) := by omega
      have hix : i < xs.length := by rw [EN.out]; exact hlt
      obtain ⟨ao', c', e1, hc1⟩ := H.out.stays HB.out
      injection e1 with e2 e3 e4
      subst e2
      obtain ⟨a, rfl, _, hx⟩ := hc1 i hix
      have HT : Hid (xs.take (i + 1) = xs.take i ++ [xs[i]]) := List.take_succ_eq_append_getElem hix
      have hsx := HS.out _ (List.getElem_mem hix)
      obtain ⟨x, ex⟩ : ∃ x, xs[i] = x := ⟨_, rfl⟩
      rw [ex] at hx HT hsx
      clear e3 e4 ex hc1
      go_wp2_with (go_at_call 72; refine (unhide (CE _ _ _ _ HM.out (by omega) hsx)).mono ?_; rintro e w1 ⟨rfl, hm1, hg1⟩; have HM1 := hide hm1; have HB1 := hide (grown_below HB.out hg1 HB.out.size (Nat.le_refl _)); clear hm1 hg1)
      go_roundw
      case rel => exact ⟨i + 1, by rw [EN.out]; omega, by go_num, by rw [HT.out, ← Nat.add_assoc]; exact HM1.out, HB1.out⟩
      case measure => simp [intOf]; omega
    · have hlt' : ¬ (i : Int) < (n : Int) := by omega
      have HF : Hid (SetAt wr w.heap.size n xs) := by
        have h := HM.out
        rw [List.take_of_length_le (by rw [EN.out]; omega)] at h
        exact h.mono (by omega)
      go_wp2
      go_ret
      exact ⟨rfl, HF.out, HB.out⟩

def UnC (w : World) (xs : List ByteArray) (iv : Value) (wr : World) : Prop := ∃ i : Nat, i ≤ xs.length ∧ iv = .int .i64 i ∧ Hid (SetAt wr (w.heap.size + 1) (1 + i) (resultN :: xs.take i)) ∧ Hid (Below w.heap.size w wr) ∧ Hid (unlikeB (xs.take i) = true)

set_option maxRecDepth 100000 in
set_option maxHeartbeats 2000000 in
theorem implUnlike_any (v : Value) (xs : List ByteArray) (w : World) (h : StrsAt w v xs) (hl : xs.length ≤ 1048576) (hs : ∀ x ∈ xs, x.size ≤ 1048576) :
    Calls Tryz.prog 69 #[v] w fun e w' => e = .returned (.bool (unlikeB xs)) ∧ Below w.heap.size w w' := by
  have CN := fun v W h => hide (namesIn_any v [resultN] W h (by decide) (by intro x hx; rw [List.mem_singleton.1 hx]; decide))
  have CE := fun n ks s W h hn hs => hide (setEnter_any (w.heap.size + 1) n ks s W h hn hs)
  have CH := fun n ks s W h hs => hide (setHas_any (w.heap.size + 1) n ks s W h hs)
  have R0 : Hid (StrsAt (w.alloc (.cells #[.string resultN] 9)) (.slice (some ⟨w.heap.size, 0, none⟩) 1 1) [resultN]) := by
    refine ⟨_, _, rfl, fun j hj => ?_⟩
    have e0 : j = 0 := by simp at hj; omega
    subst e0
    exact ⟨_, rfl, by simp, by simp [Addr.add]⟩
  have HB0 : Hid (Below w.heap.size w (w.alloc (.cells #[.string resultN] 9))) := (Below.refl _ _).alloc (Nat.le_refl _) _
  have H := hide h
  obtain ⟨ao, c, rfl, _⟩ := h
  obtain ⟨n, en⟩ : ∃ n, xs.length = n := ⟨_, rfl⟩
  have EN := hide en
  have HS := hide hs
  rw [en] at H hl ⊢
  clear en hs
  go_enter Tryz.func69, Tryz.ntmps69
  go_wp2_with fail
  refine (unhide (CN _ _ R0.out)).mono ?_
  rintro e w1 ⟨rfl, hm1, hb1⟩
  have E1 : (w.alloc (.cells #[.string resultN] 9)).heap.size = w.heap.size + 1 := by simp
  rw [E1] at hm1 ⊢
  have HM1 : Hid (SetAt w1 (w.heap.size + 1) 1 [resultN]) := hm1
  have HB1 := hide (HB0.out.trans (hb1.mono HB0.out.size))
  have HZ : Hid (w.heap.size + 1 ≤ w1.heap.size) := Nat.le_of_lt HM1.out.lt
  clear hm1 hb1 E1
  go_wp2
  go_loopw [10] (fun iv wr => UnC w xs iv wr) (fun iv _ => n - (intOf iv).toNat)
  case atStart => exact ⟨0, by omega, rfl, HM1.out, HB1.out, unlike_nil⟩
  case round =>
    clear HM1 HB1 R0 HB0 CN
    obtain ⟨i, hi, rfl, HM, HB, HU⟩ := hrel
    rw [EN.out] at hi
    by_cases hlt : i < n
    · have hlt' : (i : Int) < (n : Int) := by omega
      have hi0 : (0 : Int) ≤ (i : Int) := by omega
      have hix : i < xs.length := by rw [EN.out]; exact hlt
      obtain ⟨ao', c', e1, hc1⟩ := H.out.stays HB.out
      injection e1 with e2 e3 e4
      subst e2
      obtain ⟨a, rfl, _, hx⟩ := hc1 i hix
      have HT : Hid (xs.take (i + 1) = xs.take i ++ [xs[i]]) := List.take_succ_eq_append_getElem hix
      have HP := hide (unlike_step hix HU.out)
      have HE := hide (unlike_stop hix)
      have hsx := HS.out _ (List.getElem_mem hix)
      obtain ⟨x, ex⟩ : ∃ x, xs[i] = x := ⟨_, rfl⟩
      rw [ex] at hx HT hsx HP HE
      clear e3 e4 ex hc1
      have CH1 := fun n ks W h => CH n ks x W h hsx
      clear CH
      obtain ⟨q, eq⟩ : ∃ q, memB (resultN :: xs.take i) x = q := ⟨_, rfl⟩
      cases q with
      | true =>
        have HF : Hid (unlikeB xs = false) := HE.out (by
          rcases List.mem_cons.1 (memB_iff.1 eq) with h | h
          · exact Or.inl h
          · exact Or.inr h)
        have EQ := hide eq
        clear eq
        go_wp2_with (go_at_call 92; refine (unhide (CH1 _ _ _ HM.out)).mono ?_; rintro e w2 ⟨rfl, hb2⟩; rw [EQ.out]; have HB2 := hide (HB.out.trans (hb2.mono HB.out.size)); clear hb2)
        go_ret
        exact ⟨by rw [HF.out]; rfl, HB2.out⟩
      | false =>
        have hq := memB_no.1 eq
        rw [List.mem_cons, not_or] at hq
        have HU2 : Hid (unlikeB (xs.take (i + 1)) = true) := HP.out hq.1 hq.2
        have EQ := hide eq
        clear eq hq
        go_wp2_with (first
          | (go_at_call 92; refine (unhide (CH1 _ _ _ HM.out)).mono ?_; rintro e w2 ⟨rfl, hb2⟩; rw [EQ.out]; have HB2 := hide (HB.out.trans (hb2.mono HB.out.size)); have HM2 := hide (HM.out.stays hb2 HM.out.lt); clear hb2)
          | (go_at_call 72; refine (unhide (CE _ _ _ _ HM2.out (by omega) hsx)).mono ?_; rintro e w3 ⟨rfl, hm3, hg3⟩; have HM3 := hide hm3; have HB3 := hide (grown_below HB2.out hg3 HB2.out.size (Nat.le_succ _)); clear hm3 hg3))
        go_roundw
        case rel => exact ⟨i + 1, by rw [EN.out]; omega, by go_num, by rw [HT.out, ← Nat.add_assoc]; exact HM3.out, HB3.out, HU2.out⟩
        case measure => simp [intOf]; omega
    · have hlt' : ¬ (i : Int) < (n : Int) := by omega
      have HF : Hid (unlikeB xs = true) := by
        have h := HU.out
        rw [List.take_of_length_le (by rw [EN.out]; omega)] at h
        exact h
      go_wp2
      go_ret
      exact ⟨by rw [HF.out]; rfl, HB.out⟩
end Go.Proofs.YtpdpmnkonkpheaaGreat
