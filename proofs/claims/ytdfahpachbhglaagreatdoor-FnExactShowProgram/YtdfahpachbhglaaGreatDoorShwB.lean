/-
  Showing, by the program: blocks.
-/
import Derived.Test.YtdfahpachbhglaaGreatDoorShwT
namespace Go.Proofs.YtdfahpachbhglaaGreatDoor
open Go.RowKit

theorem between_snoc (s : ByteArray) : ∀ {ls : List (List ByteArray)} (_ : ls ≠ []) (x : List ByteArray), between s (ls ++ [x]) = between s ls ++ s :: x
  | [], h, _ => absurd rfl h
  | [a], _, x => rfl
  | a :: b :: r, _, x => by
    have e1 : between s (a :: b :: r ++ [x]) = a ++ s :: between s (b :: r ++ [x]) := rfl
    have e2 : between s (a :: b :: r) = a ++ s :: between s (b :: r) := rfl
    rw [e1, e2, between_snoc s (by simp) x]
    simp
set_option maxRecDepth 100000 in
set_option maxHeartbeats 2000000 in
theorem shBlock_fail {W0 : World} {g : Nat} {nv mv pv : Value} (k : Int) (s l : List ByteArray) (t : ByteArray) (w : World) (h : ShP W0 g nv mv pv l w) (h1 : ShI W0.heap.size g nv mv pv (Lib.strCells t) true w) (h2 : t.size ≤ 1500) (h3 : 1500 < (foldJ l).size) :
    Calls Tryz.prog 64 #[.pointer (some ⟨g, 0, none⟩), .int .i64 k] w (ShQ W0 g nv mv pv (l ++ s) w) := by
  have hb : Below w.heap.size w (w.alloc (.cells #[.slice none 0 0] 130)) := (Below.refl _ _).alloc (Nat.le_refl _) _
  have HF := hide (h.more s h1 h2 h3 hb)
  have CA := hide (shAt_off k w h1)
  obtain ⟨_, _, _, _, c6, f6⟩ := (h1.stays hb).cells
  have y0 := fun w => nil_blockNode w
  clear h h1 h2 h3 hb
  go_enter Tryz.func64, Tryz.ntmps64
  go_wp2_with fail
  refine (unhide CA).mono ?_
  rintro e w1 ⟨rfl, rfl⟩
  go_wp2
  (try simp only [Exit.inBlock, Exit.then])
  refine bodyPost_ret (results_none rfl _ _ _) rfl ?_
  exact HF.out

def BlkI (W0 : World) (g : Nat) (nv mv pv : Value) (l : List ByteArray) (ns : List Nd) (d : Nat) (ks : List Int) (w : World) (iv : Value) (wr : World) : Prop :=
  ∃ i : Nat, i ≤ ks.length ∧ iv = .int .i64 i ∧ Hid (ShP W0 g nv mv pv (l ++ ⟨#[98, 101, 103, 105, 110]⟩ :: between ⟨#[59]⟩ ((ks.take i).map fun y => shS ns d y.toNat)) wr) ∧ Hid (ShK W0.heap.size g w wr)

set_option maxRecDepth 100000 in
set_option maxHeartbeats 2000000 in
theorem shBlock_on {W0 : World} {g : Nat} {nv mv pv kv : Value} {ns : List Nd} (d : Nat) (ks : List Int) (hl : ks.length ≤ 12) (hkv : IntsAt W0 kv ks) (ih : ∀ y ∈ ks, ∃ m : Nat, y = (m : Int) ∧ ShF W0 g nv mv pv 89 (m : Int) (shS ns d m)) (k : Nat) (l : List ByteArray) (w : World) (h : ShP W0 g nv mv pv l w)
    (CA : Hid (Calls Tryz.prog 88 #[.pointer (some ⟨g, 0, none⟩), .int .i64 (k : Int)] w fun e w' => e = .returned (.iface 130 (.agg #[kv])) ∧ Below w.heap.size w w')) :
    Calls Tryz.prog 64 #[.pointer (some ⟨g, 0, none⟩), .int .i64 (k : Int)] w (ShQ W0 g nv mv pv (l ++ ⟨#[98, 101, 103, 105, 110]⟩ :: (between ⟨#[59]⟩ (ks.map fun y => shS ns d y.toNat) ++ [⟨#[101, 110, 100]⟩])) w) := by
  have yy := fun w => on_blockNode (.agg #[kv]) w
  have H := hide h
  have KV := hide hkv
  have IH := hide ih
  obtain ⟨ko, kc, rfl, _⟩ := hkv
  obtain ⟨n, en⟩ : ∃ n, ks.length = n := ⟨_, rfl⟩
  have EN := hide en
  rw [en] at KV CA hl yy
  clear h ih en
  go_enter Tryz.func64, Tryz.ntmps64
  go_wp2_with fail
  refine (unhide CA).mono ?_
  rintro e w1 ⟨rfl, hb1⟩
  have hb2 : Below w.heap.size w (w1.alloc (.cells #[.slice ko n kc] 130)) := hb1.alloc hb1.size _
  have S0 := hide (H.out.stays hb2)
  have K0 : Hid (ShK W0.heap.size g w (w1.alloc (.cells #[.slice ko n kc] 130))) := ShK.of hb2 H.out.bel.size
  have X0 := hide (Box.made w1 #[.slice ko n kc] 130)
  clear hb1 hb2 CA
  have p0 := Lib.cell_of_heap X0.out 0
  simp at p0
  go_wp2_with fail
  refine Calls.mono (shP1 _ ?_ S0.out ?_) ?_
  · simp
  · (
  intro y hy;
  simp only [List.mem_cons, List.not_mem_nil, or_false] at hy;
  rcases hy with rfl | rfl | rfl | rfl | rfl <;> first | assumption | omega | decide)
  rintro e z1 ⟨rfl, hs, hk⟩
  have S1 := hide hs
  have K1 := hide (K0.out.trans hk)
  have X1 := hide (X0.out.sh S0.out.st hk (by decide) (by decide))
  clear hs hk S0 K0 X0 p0
  have p0 := Lib.cell_of_heap X1.out 0
  simp at p0
  go_wp2
  clear p0 X1
  go_loopw [26] (fun iv wr => BlkI W0 g nv mv pv l ns d ks w iv wr) (fun iv _ => n - (intOf iv).toNat)
  case atStart => exact ⟨0, by omega, rfl, S1.out, K1.out⟩
  case round =>
    clear S1 K1
    obtain ⟨i, hi, rfl, S, K⟩ := hrel
    rw [EN.out] at hi
    by_cases hlt : i < n
    · have hlt' : (i : Int) < (n : Int) := by omega
      have hi0 : (0 : Int) ≤ (i : Int) := by omega
      have hix : i < ks.length := by rw [EN.out]; exact hlt
      obtain ⟨ao', c', e1, hc1⟩ := KV.out.stays S.out.bel
      injection e1 with e2 e3 e4
      subst e2
      obtain ⟨a, rfl, _, hx⟩ := hc1 i hix
      have HT : Hid ((ks.take (i + 1)).map (fun y => shS ns d y.toNat) = (ks.take i).map (fun y => shS ns d y.toNat) ++ [shS ns d ks[i].toNat]) := by
        show _ = _
        rw [List.take_succ_eq_append_getElem hix, List.map_append, List.map_singleton]
      obtain ⟨m, em, CM⟩ := IH.out ks[i] (List.getElem_mem hix)
      rw [em] at hx HT
      rw [Int.toNat_natCast] at HT
      clear e3 e4 hc1 em
      rcases Nat.eq_zero_or_pos i with h0 | h0
      · have hp : ¬ (0 : Int) < (i : Int) := by omega
        have HE : Hid (l ++ ⟨#[98, 101, 103, 105, 110]⟩ :: between ⟨#[59]⟩ ((ks.take (i + 1)).map fun y => shS ns d y.toNat) = l ++ ⟨#[98, 101, 103, 105, 110]⟩ :: between ⟨#[59]⟩ ((ks.take i).map fun y => shS ns d y.toNat) ++ shS ns d m) := by
          show _ = _
          rw [HT.out, h0]
          simp [between]
        clear h0
        go_wp2_with fail
        refine (CM _ _ S.out).mono ?_
        rintro e z2 ⟨rfl, hs, hk⟩
        have S2 := hide hs
        have K2 := hide (K.out.trans hk)
        clear hs hk hx
        go_wp2
        go_roundw
        case rel => exact ⟨i + 1, by rw [EN.out]; omega, by go_num, by rw [HE.out]; exact S2.out, K2.out⟩
        case measure => simp [intOf]; omega
      · have hp : (0 : Int) < (i : Int) := by omega
        have HE : Hid (l ++ ⟨#[98, 101, 103, 105, 110]⟩ :: between ⟨#[59]⟩ ((ks.take (i + 1)).map fun y => shS ns d y.toNat) = l ++ ⟨#[98, 101, 103, 105, 110]⟩ :: between ⟨#[59]⟩ ((ks.take i).map fun y => shS ns d y.toNat) ++ [⟨#[59]⟩] ++ shS ns d m) := by
          show _ = _
          rw [HT.out, between_snoc _ (fun e => by have := congrArg List.length e; rw [List.length_map, List.length_take] at this; simp only [List.length_nil] at this; omega)]
          simp
        clear h0
        go_wp2_with fail
        refine Calls.mono (shP1 _ ?_ S.out ?_) ?_
        · simp
        · (
  intro y hy;
  simp only [List.mem_cons, List.not_mem_nil, or_false] at hy;
  rcases hy with rfl | rfl | rfl | rfl | rfl <;> first | assumption | omega | decide)
        rintro e z2 ⟨rfl, hs, hk⟩
        have S2 := hide hs
        have K2 := hide (K.out.trans hk)
        clear hs hk hx
        go_wp2_with fail
        refine (CM _ _ S2.out).mono ?_
        rintro e z3 ⟨rfl, hs, hk⟩
        have S3 := hide hs
        have K3 := hide (K2.out.trans hk)
        clear hs hk
        go_wp2
        go_roundw
        case rel => exact ⟨i + 1, by rw [EN.out]; omega, by go_num, by rw [HE.out]; exact S3.out, K3.out⟩
        case measure => simp [intOf]; omega
    · have hlt' : ¬ (i : Int) < (n : Int) := by omega
      have HE : Hid (ks.take i = ks) := List.take_of_length_le (by rw [EN.out]; omega)
      rw [HE.out] at S
      go_wp2_with fail
      refine Calls.mono (shP1 _ ?_ S.out ?_) ?_
      · simp
      · (
  intro y hy;
  simp only [List.mem_cons, List.not_mem_nil, or_false] at hy;
  rcases hy with rfl | rfl | rfl | rfl | rfl <;> first | assumption | omega | decide)
      rintro e z2 ⟨rfl, hs, hk⟩
      have S2 := hide hs
      have K2 := hide (K.out.trans hk)
      clear hs hk
      go_wp2
      go_end0
      refine ⟨rfl, ?_, K2.out⟩
      have hs := S2.out
      simp only [List.append_assoc, List.cons_append] at hs ⊢
      exact hs

/-- A block of any depth. -/
theorem shBlock_any {W0 : World} {g : Nat} {nv mv pv : Value} {ns : List Nd} {dp : Nat → Nat} (hR : RightT ns dp) (E : ShE W0 nv mv pv ns) : ∀ (d k : Nat), KidB ns dp d k → ShF W0 g nv mv pv 64 (k : Int) (shS ns d k) := by
  intro d
  induction d using Nat.strongRecOn with
  | _ d ih =>
    intro k hk l w h
    have h1 := (hR.deep k hk.lt).1
    have h2 := hk.deep
    obtain ⟨d', rfl⟩ : ∃ d', d = d' + 1 := ⟨d - 1, by omega⟩
    obtain ⟨n1, n2, n3⟩ := nf_block hR hk
    rcases h.two with ⟨t, f1, f2, f3⟩ | ⟨t, f1, f2⟩
    · exact shBlock_fail (k : Int) _ l t w h f1 f2 f3
    · obtain ⟨kv, hkv, hat⟩ := E.at hk.lt
      have CA := hat _ g _ w f1 h.bel
      rw [hk.kind] at CA
      rw [n3, show tx "begin" = (⟨#[98, 101, 103, 105, 110]⟩ : ByteArray) by decide +kernel, show tx ";" = (⟨#[59]⟩ : ByteArray) by decide +kernel, show tx "end" = (⟨#[101, 110, 100]⟩ : ByteArray) by decide +kernel]
      refine shBlock_on d' _ n2 hkv (fun y hy => ?_) k l w h CA
      obtain ⟨m, rfl, hm⟩ := n1 y hy
      have h3 := (hR.deep m hm.lt).1
      have h4 := hm.deep
      obtain ⟨e, rfl⟩ : ∃ e, d' = e + 1 := ⟨d' - 1, by omega⟩
      exact ⟨m, rfl, shStmt_step hR E e m hm (fun n hn => ih e (by omega) n hn)⟩
end Go.Proofs.YtdfahpachbhglaaGreatDoor
