/-
  Walks: how much a program holds, by the laws' own helpers.
-/
import Derived.Test.YtdfahpachbhglaaGreatDoorLawW
namespace Go.Proofs.YtdfahpachbhglaaGreatDoor
open Go.RowKit

def szStrs (xs : List ByteArray) : Nat := xs.length + (xs.map ByteArray.size).sum
def szNd (x : Nd) : Nat := x.name.size + x.more.size + x.into.size + x.kids.length
def szNds (xs : List Nd) : Nat := xs.length + (xs.map szNd).sum
def szEn (x : En) : Nat := x.name.size + x.param.size
def szEns (xs : List En) : Nat := xs.length + (xs.map szEn).sum
def szMo (x : Mo) : Nat := x.name.size + szStrs x.vars + szStrs x.queues + szEns x.ents
def szMos (xs : List Mo) : Nat := xs.length + (xs.map szMo).sum
def szPr (x : Pr) : Nat := x.name.size + szStrs x.uses + szStrs x.vars
def szPrs (xs : List Pr) : Nat := xs.length + (xs.map szPr).sum
def szPg (x : Pg) : Nat := szNds x.nodes + szMos x.mons + szPrs x.pros

/-- What a reading says of lengths. -/
def IntsMax (xs : List Int) : Prop := xs.length ≤ maxLen
def StrsMax (xs : List ByteArray) : Prop := xs.length ≤ maxLen ∧ ∀ x ∈ xs, x.size ≤ maxLen
structure NdMax (x : Nd) : Prop where
  name : x.name.size ≤ maxLen
  more : x.more.size ≤ maxLen
  into : x.into.size ≤ maxLen
  kids : IntsMax x.kids
def NdsMax (xs : List Nd) : Prop := xs.length ≤ maxLen ∧ ∀ x ∈ xs, NdMax x
structure EnMax (x : En) : Prop where
  name : x.name.size ≤ maxLen
  param : x.param.size ≤ maxLen
def EnsMax (xs : List En) : Prop := xs.length ≤ maxLen ∧ ∀ x ∈ xs, EnMax x
structure MoMax (x : Mo) : Prop where
  name : x.name.size ≤ maxLen
  vars : StrsMax x.vars
  queues : StrsMax x.queues
  ents : EnsMax x.ents
def MosMax (xs : List Mo) : Prop := xs.length ≤ maxLen ∧ ∀ x ∈ xs, MoMax x
structure PrMax (x : Pr) : Prop where
  name : x.name.size ≤ maxLen
  uses : StrsMax x.uses
  vars : StrsMax x.vars
def PrsMax (xs : List Pr) : Prop := xs.length ≤ maxLen ∧ ∀ x ∈ xs, PrMax x
structure PgMax (x : Pg) : Prop where
  nodes : NdsMax x.nodes
  mons : MosMax x.mons
  pros : PrsMax x.pros

def SzR (w : World) (n : Nat) (l : Int) (f : Nat → Nat) (iv lv : Value) (wr : World) : Prop :=
  ∃ (k : Nat) (l' : Int), k ≤ n ∧ iv = .int .i64 k ∧ lv = .int .i64 l' ∧ 0 ≤ l' ∧ l' ≤ 1048576 ∧ Hid (l' + (n : Int) + (f k : Nat) = l) ∧ Hid (Below w.heap.size w wr)

set_option maxHeartbeats 1000000 in
theorem szIntS_any (v : Value) (xs : List Int) (l : Int) (w : World) (h0 : 0 ≤ l) (h1 : l ≤ 1048576) (h : IntsAt w v xs) (hm : IntsMax xs) :
    Calls Tryz.prog 48 #[v, .int .i64 l] w fun e w' => ∃ r : Int, e = .returned (.int .i64 r) ∧ (r < 0 ∨ (0 ≤ r ∧ r + (xs.length : Nat) = l)) ∧ Below w.heap.size w w' := by
  have hlen : xs.length ≤ 9223372036854775807 := hm
  obtain ⟨ao, c, rfl, _⟩ := h
  obtain ⟨n, en⟩ : ∃ n, xs.length = n := ⟨_, rfl⟩
  rw [en] at hlen ⊢
  clear en hm
  have hw : wrap64 (l - (n : Int)) = l - (n : Int) := IntWalk.wrap64_in _ (by omega)
  by_cases hn : l < (n : Int)
  · have hn' : l - (n : Int) < 0 := by omega
    go_enter Tryz.func48, Tryz.ntmps48
    go_wp2
    go_ret
    exact ⟨-1, rfl, .inl (by omega), Below.refl _ _⟩
  · have hn' : ¬ (l - (n : Int) < 0) := by omega
    go_enter Tryz.func48, Tryz.ntmps48
    go_wp2
    go_ret
    exact ⟨l - n, rfl, .inr ⟨by omega, by omega⟩, Below.refl _ _⟩

set_option maxRecDepth 100000 in
set_option maxHeartbeats 2000000 in
theorem szStringS_any (v : Value) (xs : List ByteArray) (l : Int) (w : World) (h0 : 0 ≤ l) (h1 : l ≤ 1048576) (h : StrsAt w v xs) (hm : StrsMax xs) :
    Calls Tryz.prog 49 #[v, .int .i64 l] w fun e w' => ∃ r : Int, e = .returned (.int .i64 r) ∧ (r < 0 ∨ (0 ≤ r ∧ r + (szStrs xs : Nat) = l)) ∧ Below w.heap.size w w' := by
  have HC := hide h
  have HM := hide hm.2
  have hlen : xs.length ≤ 9223372036854775807 := hm.1
  obtain ⟨ao, c, rfl, _⟩ := h
  clear hm
  obtain ⟨n, en⟩ : ∃ n, xs.length = n := ⟨_, rfl⟩
  have EN := hide en
  rw [en] at HC hlen ⊢
  clear en
  have hw : wrap64 (l - (n : Int)) = l - (n : Int) := IntWalk.wrap64_in _ (by omega)
  by_cases hn : l < (n : Int)
  · have hn' : l - (n : Int) < 0 := by omega
    go_enter Tryz.func49, Tryz.ntmps49
    go_wp2
    go_ret
    exact ⟨-1, rfl, .inl (by omega), Below.refl _ _⟩
  · have hn' : ¬ (l - (n : Int) < 0) := by omega
    go_enter Tryz.func49, Tryz.ntmps49
    go_wp2
    go_loopw [5, 1] (SzR w n l (fun k => ((xs.take k).map ByteArray.size).sum)) (fun iv _ _ => n - (intOf iv).toNat)
    case atStart => exact ⟨0, _, Nat.zero_le _, rfl, rfl, by omega, by omega, by show _ = _; simp, Below.refl _ _⟩
    case round =>
      obtain ⟨k, l', hk, rfl, rfl, hl0, hl1, HS, HB⟩ := hrel
      by_cases hlt : k < n
      · have hlt' : (k : Int) < (n : Int) := by omega
        have hi0 : (0 : Int) ≤ (k : Int) := by omega
        have hkx : k < xs.length := by rw [EN.out]; exact hlt
        obtain ⟨ao', cc, e5, hc⟩ := HC.out.stays HB.out
        injection e5 with e6 e7 e8
        subst e6
        obtain ⟨a, rfl, hab, hcell⟩ := hc k hkx
        have hsz : xs[k].size ≤ 9223372036854775807 := HM.out _ (List.getElem_mem hkx)
        have HT : Hid (((xs.take (k + 1)).map ByteArray.size).sum = ((xs.take k).map ByteArray.size).sum + ByteArray.size xs[k]) := by
          show _ = _
          rw [List.take_succ_eq_append_getElem hkx, List.map_append, List.sum_append]
          simp
        obtain ⟨x, ex⟩ : ∃ x, xs[k] = x := ⟨_, rfl⟩
        rw [ex] at hsz HT hcell
        clear ex e7 e8 hc
        have hw2 : wrap64 (l' - (x.size : Int)) = l' - (x.size : Int) := IntWalk.wrap64_in _ (by omega)
        by_cases hr0 : l' < (x.size : Int)
        · have hr0' : l' - (x.size : Int) < 0 := by omega
          go_wp2
          go_ret
          exact ⟨-1, rfl, .inl (by omega), HB.out⟩
        · have hr0' : ¬ (l' - (x.size : Int) < 0) := by omega
          go_wp2
          go_roundw
          case rel => exact ⟨k + 1, l' - (x.size : Int), by omega, by go_num, rfl, by omega, by omega, by
            have h1 := HS.out
            (try dsimp only at h1)
            have h2 := HT.out
            show _ = _
            (try dsimp only)
            omega, HB.out⟩
          case measure => simp [intOf]; omega
      · have hlt' : ¬ (k : Int) < (n : Int) := by omega
        go_wp2
        go_ret
        exact ⟨l', rfl, .inr ⟨hl0, by
          have h1 := HS.out
          (try dsimp only at h1)
          rw [List.take_of_length_le (by rw [EN.out]; omega)] at h1
          rw [szStrs, EN.out]
          omega⟩, HB.out⟩
set_option maxRecDepth 100000 in
set_option maxHeartbeats 1000000 in
theorem szNode_any (x : Nd) (kv : Value) (l : Int) (w : World) (h0 : 0 ≤ l) (h1 : l ≤ 1048576) (k5 : IntsAt w kv x.kids) (hm : NdMax x) :
    Calls Tryz.prog 25 #[.agg #[.int .i64 x.kind, .int .i64 x.num, .string x.name, .string x.more, .string x.into, kv], .int .i64 l] w fun e w' => ∃ r : Int, e = .returned (.int .i64 r) ∧ (r < 0 ∨ (0 ≤ r ∧ r + (szNd x : Nat) = l)) ∧ Below w.heap.size w w' := by
  have HM := hide hm
  have HU : Hid (szNd x = x.name.size + x.more.size + x.into.size + x.kids.length) := rfl
  have B0 := hide (Box.made w #[.int .i64 x.kind, .int .i64 x.num, .string x.name, .string x.more, .string x.into, kv] 69)
  have BB : Hid (Below w.heap.size w (w.alloc (.cells #[.int .i64 x.kind, .int .i64 x.num, .string x.name, .string x.more, .string x.into, kv] 69))) := (Below.refl _ _).alloc (Nat.le_refl _) _
  have m0 : x.name.size ≤ 9223372036854775807 := hm.name
  have m1 : x.more.size ≤ 9223372036854775807 := hm.more
  have m2 : x.into.size ≤ 9223372036854775807 := hm.into
  have C5 := fun l w h0 h1 k => hide (szIntS_any kv x.kids l w h0 h1 k hm.kids)
  have K5 := hide k5
  obtain ⟨o5, c5, rfl, _⟩ := k5
  clear hm
  have w0 : wrap64 (l - ((x.name.size : Nat) : Int)) = l - ((x.name.size : Nat) : Int) := IntWalk.wrap64_in _ (by omega)
  by_cases g0 : l < ((x.name.size : Nat) : Int)
  · have n0 : l - ((x.name.size : Nat) : Int) < 0 := by omega
    go_enter Tryz.func25, Tryz.ntmps25
    go_wp2
    go_ret
    exact ⟨-1, rfl, .inl (by omega), BB.out⟩
  have n0 : ¬ (l - ((x.name.size : Nat) : Int) < 0) := by omega
  have w1 : wrap64 (l - ((x.name.size : Nat) : Int) - ((x.more.size : Nat) : Int)) = l - ((x.name.size : Nat) : Int) - ((x.more.size : Nat) : Int) := IntWalk.wrap64_in _ (by omega)
  by_cases g1 : l - ((x.name.size : Nat) : Int) < ((x.more.size : Nat) : Int)
  · have n1 : l - ((x.name.size : Nat) : Int) - ((x.more.size : Nat) : Int) < 0 := by omega
    go_enter Tryz.func25, Tryz.ntmps25
    go_wp2
    go_ret
    exact ⟨-1, rfl, .inl (by omega), BB.out⟩
  have n1 : ¬ (l - ((x.name.size : Nat) : Int) - ((x.more.size : Nat) : Int) < 0) := by omega
  have w2 : wrap64 (l - ((x.name.size : Nat) : Int) - ((x.more.size : Nat) : Int) - ((x.into.size : Nat) : Int)) = l - ((x.name.size : Nat) : Int) - ((x.more.size : Nat) : Int) - ((x.into.size : Nat) : Int) := IntWalk.wrap64_in _ (by omega)
  by_cases g2 : l - ((x.name.size : Nat) : Int) - ((x.more.size : Nat) : Int) < ((x.into.size : Nat) : Int)
  · have n2 : l - ((x.name.size : Nat) : Int) - ((x.more.size : Nat) : Int) - ((x.into.size : Nat) : Int) < 0 := by omega
    go_enter Tryz.func25, Tryz.ntmps25
    go_wp2
    go_ret
    exact ⟨-1, rfl, .inl (by omega), BB.out⟩
  have n2 : ¬ (l - ((x.name.size : Nat) : Int) - ((x.more.size : Nat) : Int) - ((x.into.size : Nat) : Int) < 0) := by omega
  go_enter Tryz.func25, Tryz.ntmps25
  go_wp2_with fail
  refine (unhide (C5 (l - ((x.name.size : Nat) : Int) - ((x.more.size : Nat) : Int) - ((x.into.size : Nat) : Int)) _ (by omega) (by omega) (K5.out.stays BB.out))).mono ?_
  rintro e z0 ⟨r0, rfl, hr0, hb0⟩
  have B1 := hide (B0.out.stays hb0)
  have BB1 := hide (BB.out.trans (hb0.mono BB.out.size))
  have p0 := Lib.cell_of_heap B1.out 0
  have p1 := Lib.cell_of_heap B1.out 1
  have p2 := Lib.cell_of_heap B1.out 2
  have p3 := Lib.cell_of_heap B1.out 3
  have p4 := Lib.cell_of_heap B1.out 4
  have p5 := Lib.cell_of_heap B1.out 5
  simp at p0 p1 p2 p3 p4 p5
  clear hb0
  by_cases q0 : r0 < 0
  · clear hr0
    go_wp2
    go_ret
    exact ⟨-1, rfl, .inl (by omega), BB1.out⟩
  obtain ⟨e0, f0⟩ := hr0.resolve_left q0
  have F0 := hide f0
  have x0 : r0 ≤ 1048576 := by omega
  clear f0 hr0
  go_wp2
  go_ret
  exact ⟨r0, rfl, .inr ⟨by omega, by
    rw [HU.out]
    have q := HM.out
    have := F0.out
    omega⟩, BB1.out⟩
set_option maxRecDepth 100000 in
set_option maxHeartbeats 2000000 in
theorem szNodeS_any (v : Value) (xs : List Nd) (l : Int) (w : World) (h0 : 0 ≤ l) (h1 : l ≤ 1048576) (h : NdsAt w v xs) (hm : NdsMax xs) :
    Calls Tryz.prog 9 #[v, .int .i64 l] w fun e w' => ∃ r : Int, e = .returned (.int .i64 r) ∧ (r < 0 ∨ (0 ≤ r ∧ r + (szNds xs : Nat) = l)) ∧ Below w.heap.size w w' := by
  have HC := hide h
  have HM := hide hm.2
  have hlen : xs.length ≤ 9223372036854775807 := hm.1
  obtain ⟨ao, c, rfl, _⟩ := h
  clear hm
  obtain ⟨n, en⟩ : ∃ n, xs.length = n := ⟨_, rfl⟩
  have EN := hide en
  rw [en] at HC hlen ⊢
  clear en
  have hw : wrap64 (l - (n : Int)) = l - (n : Int) := IntWalk.wrap64_in _ (by omega)
  by_cases hn : l < (n : Int)
  · have hn' : l - (n : Int) < 0 := by omega
    go_enter Tryz.func9, Tryz.ntmps9
    go_wp2
    go_ret
    exact ⟨-1, rfl, .inl (by omega), Below.refl _ _⟩
  · have hn' : ¬ (l - (n : Int) < 0) := by omega
    go_enter Tryz.func9, Tryz.ntmps9
    go_wp2
    go_loopw [5, 1] (SzR w n l (fun k => ((xs.take k).map szNd).sum)) (fun iv _ _ => n - (intOf iv).toNat)
    case atStart => exact ⟨0, _, Nat.zero_le _, rfl, rfl, by omega, by omega, by show _ = _; simp, Below.refl _ _⟩
    case round =>
      obtain ⟨k, l', hk, rfl, rfl, hl0, hl1, HS, HB⟩ := hrel
      by_cases hlt : k < n
      · have hlt' : (k : Int) < (n : Int) := by omega
        have hi0 : (0 : Int) ≤ (k : Int) := by omega
        have hkx : k < xs.length := by rw [EN.out]; exact hlt
        obtain ⟨ao', cc, e5, hc⟩ := HC.out.stays HB.out
        injection e5 with e6 e7 e8
        subst e6
        obtain ⟨a, q5, rfl, hab, hcell⟩ := hc k hkx
        obtain ⟨p, hpa⟩ : ∃ p, a.add (k * 6) = p := ⟨_, rfl⟩
        rw [hpa] at hcell
        obtain ⟨d0, d1, d2, d3, d4, d5, g5⟩ := hcell
        have C := hide (szNode_any xs[k] q5 l' wr hl0 hl1 g5 (HM.out _ (List.getElem_mem hkx)))
        have HT : Hid (((xs.take (k + 1)).map szNd).sum = ((xs.take k).map szNd).sum + szNd xs[k]) := by
          show _ = _
          rw [List.take_succ_eq_append_getElem hkx, List.map_append, List.sum_append]
          simp
        obtain ⟨qo5, qc5, rfl, _⟩ := g5
        obtain ⟨x, ex⟩ : ∃ x, xs[k] = x := ⟨_, rfl⟩
        rw [ex] at C HT d0 d1 d2 d3 d4 d5
        clear ex e7 e8 hc
        go_wp2_with fail
        refine (unhide C).mono ?_
        rintro e w1 ⟨r, rfl, hr, hb1⟩
        have HB1 := hide (HB.out.trans (hb1.mono HB.out.size))
        clear hb1
        by_cases hr0 : r < 0
        · clear hr
          go_wp2
          go_ret
          exact ⟨-1, rfl, .inl (by omega), HB1.out⟩
        · obtain ⟨e0, e1⟩ := hr.resolve_left hr0
          have E1 := hide e1
          have hr1 : r ≤ 1048576 := by omega
          clear hr e1
          go_wp2
          go_roundw
          case rel => exact ⟨k + 1, r, by omega, by go_num, rfl, by omega, by omega, by
            have h1 := HS.out
            (try dsimp only at h1)
            have h2 := HT.out
            have h3 := E1.out
            show _ = _
            (try dsimp only)
            omega, HB1.out⟩
          case measure => simp [intOf]; omega
      · have hlt' : ¬ (k : Int) < (n : Int) := by omega
        go_wp2
        go_ret
        exact ⟨l', rfl, .inr ⟨hl0, by
          have h1 := HS.out
          (try dsimp only at h1)
          rw [List.take_of_length_le (by rw [EN.out]; omega)] at h1
          rw [szNds, EN.out]
          omega⟩, HB.out⟩
set_option maxRecDepth 100000 in
set_option maxHeartbeats 1000000 in
theorem szEntry_any (x : En) (l : Int) (w : World) (h0 : 0 ≤ l) (h1 : l ≤ 1048576) (hm : EnMax x) :
    Calls Tryz.prog 71 #[.agg #[.string x.name, .string x.param, .int .i64 x.body], .int .i64 l] w fun e w' => ∃ r : Int, e = .returned (.int .i64 r) ∧ (r < 0 ∨ (0 ≤ r ∧ r + (szEn x : Nat) = l)) ∧ Below w.heap.size w w' := by
  have HM := hide hm
  have HU : Hid (szEn x = x.name.size + x.param.size) := rfl
  have B0 := hide (Box.made w #[.string x.name, .string x.param, .int .i64 x.body] 115)
  have BB : Hid (Below w.heap.size w (w.alloc (.cells #[.string x.name, .string x.param, .int .i64 x.body] 115))) := (Below.refl _ _).alloc (Nat.le_refl _) _
  have m0 : x.name.size ≤ 9223372036854775807 := hm.name
  have m1 : x.param.size ≤ 9223372036854775807 := hm.param
  clear hm
  have w0 : wrap64 (l - ((x.name.size : Nat) : Int)) = l - ((x.name.size : Nat) : Int) := IntWalk.wrap64_in _ (by omega)
  by_cases g0 : l < ((x.name.size : Nat) : Int)
  · have n0 : l - ((x.name.size : Nat) : Int) < 0 := by omega
    go_enter Tryz.func71, Tryz.ntmps71
    go_wp2
    go_ret
    exact ⟨-1, rfl, .inl (by omega), BB.out⟩
  have n0 : ¬ (l - ((x.name.size : Nat) : Int) < 0) := by omega
  have w1 : wrap64 (l - ((x.name.size : Nat) : Int) - ((x.param.size : Nat) : Int)) = l - ((x.name.size : Nat) : Int) - ((x.param.size : Nat) : Int) := IntWalk.wrap64_in _ (by omega)
  by_cases g1 : l - ((x.name.size : Nat) : Int) < ((x.param.size : Nat) : Int)
  · have n1 : l - ((x.name.size : Nat) : Int) - ((x.param.size : Nat) : Int) < 0 := by omega
    go_enter Tryz.func71, Tryz.ntmps71
    go_wp2
    go_ret
    exact ⟨-1, rfl, .inl (by omega), BB.out⟩
  have n1 : ¬ (l - ((x.name.size : Nat) : Int) - ((x.param.size : Nat) : Int) < 0) := by omega
  go_enter Tryz.func71, Tryz.ntmps71
  go_wp2
  go_ret
  exact ⟨l - ((x.name.size : Nat) : Int) - ((x.param.size : Nat) : Int), rfl, .inr ⟨by omega, by rw [HU.out]; omega⟩, BB.out⟩
set_option maxRecDepth 100000 in
set_option maxHeartbeats 2000000 in
theorem szEntryS_any (v : Value) (xs : List En) (l : Int) (w : World) (h0 : 0 ≤ l) (h1 : l ≤ 1048576) (h : EnsAt w v xs) (hm : EnsMax xs) :
    Calls Tryz.prog 50 #[v, .int .i64 l] w fun e w' => ∃ r : Int, e = .returned (.int .i64 r) ∧ (r < 0 ∨ (0 ≤ r ∧ r + (szEns xs : Nat) = l)) ∧ Below w.heap.size w w' := by
  have HC := hide h
  have HM := hide hm.2
  have hlen : xs.length ≤ 9223372036854775807 := hm.1
  obtain ⟨ao, c, rfl, _⟩ := h
  clear hm
  obtain ⟨n, en⟩ : ∃ n, xs.length = n := ⟨_, rfl⟩
  have EN := hide en
  rw [en] at HC hlen ⊢
  clear en
  have hw : wrap64 (l - (n : Int)) = l - (n : Int) := IntWalk.wrap64_in _ (by omega)
  by_cases hn : l < (n : Int)
  · have hn' : l - (n : Int) < 0 := by omega
    go_enter Tryz.func50, Tryz.ntmps50
    go_wp2
    go_ret
    exact ⟨-1, rfl, .inl (by omega), Below.refl _ _⟩
  · have hn' : ¬ (l - (n : Int) < 0) := by omega
    go_enter Tryz.func50, Tryz.ntmps50
    go_wp2
    go_loopw [5, 1] (SzR w n l (fun k => ((xs.take k).map szEn).sum)) (fun iv _ _ => n - (intOf iv).toNat)
    case atStart => exact ⟨0, _, Nat.zero_le _, rfl, rfl, by omega, by omega, by show _ = _; simp, Below.refl _ _⟩
    case round =>
      obtain ⟨k, l', hk, rfl, rfl, hl0, hl1, HS, HB⟩ := hrel
      by_cases hlt : k < n
      · have hlt' : (k : Int) < (n : Int) := by omega
        have hi0 : (0 : Int) ≤ (k : Int) := by omega
        have hkx : k < xs.length := by rw [EN.out]; exact hlt
        obtain ⟨ao', cc, e5, hc⟩ := HC.out.stays HB.out
        injection e5 with e6 e7 e8
        subst e6
        obtain ⟨a, rfl, hab, hcell⟩ := hc k hkx
        obtain ⟨p, hpa⟩ : ∃ p, a.add (k * 3) = p := ⟨_, rfl⟩
        rw [hpa] at hcell
        obtain ⟨d0, d1, d2⟩ := hcell
        have C := hide (szEntry_any xs[k] l' wr hl0 hl1 (HM.out _ (List.getElem_mem hkx)))
        have HT : Hid (((xs.take (k + 1)).map szEn).sum = ((xs.take k).map szEn).sum + szEn xs[k]) := by
          show _ = _
          rw [List.take_succ_eq_append_getElem hkx, List.map_append, List.sum_append]
          simp
        obtain ⟨x, ex⟩ : ∃ x, xs[k] = x := ⟨_, rfl⟩
        rw [ex] at C HT d0 d1 d2
        clear ex e7 e8 hc
        go_wp2_with fail
        refine (unhide C).mono ?_
        rintro e w1 ⟨r, rfl, hr, hb1⟩
        have HB1 := hide (HB.out.trans (hb1.mono HB.out.size))
        clear hb1
        by_cases hr0 : r < 0
        · clear hr
          go_wp2
          go_ret
          exact ⟨-1, rfl, .inl (by omega), HB1.out⟩
        · obtain ⟨e0, e1⟩ := hr.resolve_left hr0
          have E1 := hide e1
          have hr1 : r ≤ 1048576 := by omega
          clear hr e1
          go_wp2
          go_roundw
          case rel => exact ⟨k + 1, r, by omega, by go_num, rfl, by omega, by omega, by
            have h1 := HS.out
            (try dsimp only at h1)
            have h2 := HT.out
            have h3 := E1.out
            show _ = _
            (try dsimp only)
            omega, HB1.out⟩
          case measure => simp [intOf]; omega
      · have hlt' : ¬ (k : Int) < (n : Int) := by omega
        go_wp2
        go_ret
        exact ⟨l', rfl, .inr ⟨hl0, by
          have h1 := HS.out
          (try dsimp only at h1)
          rw [List.take_of_length_le (by rw [EN.out]; omega)] at h1
          rw [szEns, EN.out]
          omega⟩, HB.out⟩
set_option maxRecDepth 100000 in
set_option maxHeartbeats 1000000 in
theorem szMonitor_any (x : Mo) (vv qv ev : Value) (l : Int) (w : World) (h0 : 0 ≤ l) (h1 : l ≤ 1048576) (k1 : StrsAt w vv x.vars) (k2 : StrsAt w qv x.queues) (k3 : EnsAt w ev x.ents) (hm : MoMax x) :
    Calls Tryz.prog 26 #[.agg #[.string x.name, vv, qv, ev], .int .i64 l] w fun e w' => ∃ r : Int, e = .returned (.int .i64 r) ∧ (r < 0 ∨ (0 ≤ r ∧ r + (szMo x : Nat) = l)) ∧ Below w.heap.size w w' := by
  have HM := hide hm
  have HU : Hid (szMo x = x.name.size + szStrs x.vars + szStrs x.queues + szEns x.ents) := rfl
  have B0 := hide (Box.made w #[.string x.name, vv, qv, ev] 73)
  have BB : Hid (Below w.heap.size w (w.alloc (.cells #[.string x.name, vv, qv, ev] 73))) := (Below.refl _ _).alloc (Nat.le_refl _) _
  have m0 : x.name.size ≤ 9223372036854775807 := hm.name
  have C1 := fun l w h0 h1 k => hide (szStringS_any vv x.vars l w h0 h1 k hm.vars)
  have K1 := hide k1
  obtain ⟨o1, c1, rfl, _⟩ := k1
  have C2 := fun l w h0 h1 k => hide (szStringS_any qv x.queues l w h0 h1 k hm.queues)
  have K2 := hide k2
  obtain ⟨o2, c2, rfl, _⟩ := k2
  have C3 := fun l w h0 h1 k => hide (szEntryS_any ev x.ents l w h0 h1 k hm.ents)
  have K3 := hide k3
  obtain ⟨o3, c3, rfl, _⟩ := k3
  clear hm
  have w0 : wrap64 (l - ((x.name.size : Nat) : Int)) = l - ((x.name.size : Nat) : Int) := IntWalk.wrap64_in _ (by omega)
  by_cases g0 : l < ((x.name.size : Nat) : Int)
  · have n0 : l - ((x.name.size : Nat) : Int) < 0 := by omega
    go_enter Tryz.func26, Tryz.ntmps26
    go_wp2
    go_ret
    exact ⟨-1, rfl, .inl (by omega), BB.out⟩
  have n0 : ¬ (l - ((x.name.size : Nat) : Int) < 0) := by omega
  go_enter Tryz.func26, Tryz.ntmps26
  go_wp2_with fail
  refine (unhide (C1 (l - ((x.name.size : Nat) : Int)) _ (by omega) (by omega) (K1.out.stays BB.out))).mono ?_
  rintro e z0 ⟨r0, rfl, hr0, hb0⟩
  have B1 := hide (B0.out.stays hb0)
  have BB1 := hide (BB.out.trans (hb0.mono BB.out.size))
  have p0 := Lib.cell_of_heap B1.out 0
  have p1 := Lib.cell_of_heap B1.out 1
  have p2 := Lib.cell_of_heap B1.out 2
  have p3 := Lib.cell_of_heap B1.out 3
  simp at p0 p1 p2 p3
  clear hb0
  by_cases q0 : r0 < 0
  · clear hr0
    go_wp2
    go_ret
    exact ⟨-1, rfl, .inl (by omega), BB1.out⟩
  obtain ⟨e0, f0⟩ := hr0.resolve_left q0
  have F0 := hide f0
  have x0 : r0 ≤ 1048576 := by omega
  clear f0 hr0
  go_wp2_with fail
  clear p0 p1 p2 p3
  refine (unhide (C2 (r0) _ (by omega) (by omega) (K2.out.stays BB1.out))).mono ?_
  rintro e z1 ⟨r1, rfl, hr1, hb1⟩
  have B2 := hide (B1.out.stays hb1)
  have BB2 := hide (BB1.out.trans (hb1.mono BB1.out.size))
  have p0 := Lib.cell_of_heap B2.out 0
  have p1 := Lib.cell_of_heap B2.out 1
  have p2 := Lib.cell_of_heap B2.out 2
  have p3 := Lib.cell_of_heap B2.out 3
  simp at p0 p1 p2 p3
  clear hb1
  by_cases q1 : r1 < 0
  · clear hr1
    go_wp2
    go_ret
    exact ⟨-1, rfl, .inl (by omega), BB2.out⟩
  obtain ⟨e1, f1⟩ := hr1.resolve_left q1
  have F1 := hide f1
  have x1 : r1 ≤ 1048576 := by omega
  clear f1 hr1
  go_wp2_with fail
  clear p0 p1 p2 p3
  refine (unhide (C3 (r1) _ (by omega) (by omega) (K3.out.stays BB2.out))).mono ?_
  rintro e z2 ⟨r2, rfl, hr2, hb2⟩
  have B3 := hide (B2.out.stays hb2)
  have BB3 := hide (BB2.out.trans (hb2.mono BB2.out.size))
  have p0 := Lib.cell_of_heap B3.out 0
  have p1 := Lib.cell_of_heap B3.out 1
  have p2 := Lib.cell_of_heap B3.out 2
  have p3 := Lib.cell_of_heap B3.out 3
  simp at p0 p1 p2 p3
  clear hb2
  by_cases q2 : r2 < 0
  · clear hr2
    go_wp2
    go_ret
    exact ⟨-1, rfl, .inl (by omega), BB3.out⟩
  obtain ⟨e2, f2⟩ := hr2.resolve_left q2
  have F2 := hide f2
  have x2 : r2 ≤ 1048576 := by omega
  clear f2 hr2
  go_wp2
  go_ret
  exact ⟨r2, rfl, .inr ⟨by omega, by
    rw [HU.out]
    have q := HM.out
    have := F0.out
    have := F1.out
    have := F2.out
    omega⟩, BB3.out⟩
set_option maxRecDepth 100000 in
set_option maxHeartbeats 2000000 in
theorem szMonitorS_any (v : Value) (xs : List Mo) (l : Int) (w : World) (h0 : 0 ≤ l) (h1 : l ≤ 1048576) (h : MosAt w v xs) (hm : MosMax xs) :
    Calls Tryz.prog 10 #[v, .int .i64 l] w fun e w' => ∃ r : Int, e = .returned (.int .i64 r) ∧ (r < 0 ∨ (0 ≤ r ∧ r + (szMos xs : Nat) = l)) ∧ Below w.heap.size w w' := by
  have HC := hide h
  have HM := hide hm.2
  have hlen : xs.length ≤ 9223372036854775807 := hm.1
  obtain ⟨ao, c, rfl, _⟩ := h
  clear hm
  obtain ⟨n, en⟩ : ∃ n, xs.length = n := ⟨_, rfl⟩
  have EN := hide en
  rw [en] at HC hlen ⊢
  clear en
  have hw : wrap64 (l - (n : Int)) = l - (n : Int) := IntWalk.wrap64_in _ (by omega)
  by_cases hn : l < (n : Int)
  · have hn' : l - (n : Int) < 0 := by omega
    go_enter Tryz.func10, Tryz.ntmps10
    go_wp2
    go_ret
    exact ⟨-1, rfl, .inl (by omega), Below.refl _ _⟩
  · have hn' : ¬ (l - (n : Int) < 0) := by omega
    go_enter Tryz.func10, Tryz.ntmps10
    go_wp2
    go_loopw [5, 1] (SzR w n l (fun k => ((xs.take k).map szMo).sum)) (fun iv _ _ => n - (intOf iv).toNat)
    case atStart => exact ⟨0, _, Nat.zero_le _, rfl, rfl, by omega, by omega, by show _ = _; simp, Below.refl _ _⟩
    case round =>
      obtain ⟨k, l', hk, rfl, rfl, hl0, hl1, HS, HB⟩ := hrel
      by_cases hlt : k < n
      · have hlt' : (k : Int) < (n : Int) := by omega
        have hi0 : (0 : Int) ≤ (k : Int) := by omega
        have hkx : k < xs.length := by rw [EN.out]; exact hlt
        obtain ⟨ao', cc, e5, hc⟩ := HC.out.stays HB.out
        injection e5 with e6 e7 e8
        subst e6
        obtain ⟨a, q1, q2, q3, rfl, hab, hcell⟩ := hc k hkx
        obtain ⟨p, hpa⟩ : ∃ p, a.add (k * 4) = p := ⟨_, rfl⟩
        rw [hpa] at hcell
        obtain ⟨d0, d1, d2, d3, g1, g2, g3⟩ := hcell
        have C := hide (szMonitor_any xs[k] q1 q2 q3 l' wr hl0 hl1 g1 g2 g3 (HM.out _ (List.getElem_mem hkx)))
        have HT : Hid (((xs.take (k + 1)).map szMo).sum = ((xs.take k).map szMo).sum + szMo xs[k]) := by
          show _ = _
          rw [List.take_succ_eq_append_getElem hkx, List.map_append, List.sum_append]
          simp
        obtain ⟨qo1, qc1, rfl, _⟩ := g1
        obtain ⟨qo2, qc2, rfl, _⟩ := g2
        obtain ⟨qo3, qc3, rfl, _⟩ := g3
        obtain ⟨x, ex⟩ : ∃ x, xs[k] = x := ⟨_, rfl⟩
        rw [ex] at C HT d0 d1 d2 d3
        clear ex e7 e8 hc
        go_wp2_with fail
        refine (unhide C).mono ?_
        rintro e w1 ⟨r, rfl, hr, hb1⟩
        have HB1 := hide (HB.out.trans (hb1.mono HB.out.size))
        clear hb1
        by_cases hr0 : r < 0
        · clear hr
          go_wp2
          go_ret
          exact ⟨-1, rfl, .inl (by omega), HB1.out⟩
        · obtain ⟨e0, e1⟩ := hr.resolve_left hr0
          have E1 := hide e1
          have hr1 : r ≤ 1048576 := by omega
          clear hr e1
          go_wp2
          go_roundw
          case rel => exact ⟨k + 1, r, by omega, by go_num, rfl, by omega, by omega, by
            have h1 := HS.out
            (try dsimp only at h1)
            have h2 := HT.out
            have h3 := E1.out
            show _ = _
            (try dsimp only)
            omega, HB1.out⟩
          case measure => simp [intOf]; omega
      · have hlt' : ¬ (k : Int) < (n : Int) := by omega
        go_wp2
        go_ret
        exact ⟨l', rfl, .inr ⟨hl0, by
          have h1 := HS.out
          (try dsimp only at h1)
          rw [List.take_of_length_le (by rw [EN.out]; omega)] at h1
          rw [szMos, EN.out]
          omega⟩, HB.out⟩
set_option maxRecDepth 100000 in
set_option maxHeartbeats 1000000 in
theorem szProcess_any (x : Pr) (uv vv : Value) (l : Int) (w : World) (h0 : 0 ≤ l) (h1 : l ≤ 1048576) (k1 : StrsAt w uv x.uses) (k2 : StrsAt w vv x.vars) (hm : PrMax x) :
    Calls Tryz.prog 27 #[.agg #[.string x.name, uv, vv, .int .i64 x.body], .int .i64 l] w fun e w' => ∃ r : Int, e = .returned (.int .i64 r) ∧ (r < 0 ∨ (0 ≤ r ∧ r + (szPr x : Nat) = l)) ∧ Below w.heap.size w w' := by
  have HM := hide hm
  have HU : Hid (szPr x = x.name.size + szStrs x.uses + szStrs x.vars) := rfl
  have B0 := hide (Box.made w #[.string x.name, uv, vv, .int .i64 x.body] 75)
  have BB : Hid (Below w.heap.size w (w.alloc (.cells #[.string x.name, uv, vv, .int .i64 x.body] 75))) := (Below.refl _ _).alloc (Nat.le_refl _) _
  have m0 : x.name.size ≤ 9223372036854775807 := hm.name
  have C1 := fun l w h0 h1 k => hide (szStringS_any uv x.uses l w h0 h1 k hm.uses)
  have K1 := hide k1
  obtain ⟨o1, c1, rfl, _⟩ := k1
  have C2 := fun l w h0 h1 k => hide (szStringS_any vv x.vars l w h0 h1 k hm.vars)
  have K2 := hide k2
  obtain ⟨o2, c2, rfl, _⟩ := k2
  clear hm
  have w0 : wrap64 (l - ((x.name.size : Nat) : Int)) = l - ((x.name.size : Nat) : Int) := IntWalk.wrap64_in _ (by omega)
  by_cases g0 : l < ((x.name.size : Nat) : Int)
  · have n0 : l - ((x.name.size : Nat) : Int) < 0 := by omega
    go_enter Tryz.func27, Tryz.ntmps27
    go_wp2
    go_ret
    exact ⟨-1, rfl, .inl (by omega), BB.out⟩
  have n0 : ¬ (l - ((x.name.size : Nat) : Int) < 0) := by omega
  go_enter Tryz.func27, Tryz.ntmps27
  go_wp2_with fail
  refine (unhide (C1 (l - ((x.name.size : Nat) : Int)) _ (by omega) (by omega) (K1.out.stays BB.out))).mono ?_
  rintro e z0 ⟨r0, rfl, hr0, hb0⟩
  have B1 := hide (B0.out.stays hb0)
  have BB1 := hide (BB.out.trans (hb0.mono BB.out.size))
  have p0 := Lib.cell_of_heap B1.out 0
  have p1 := Lib.cell_of_heap B1.out 1
  have p2 := Lib.cell_of_heap B1.out 2
  have p3 := Lib.cell_of_heap B1.out 3
  simp at p0 p1 p2 p3
  clear hb0
  by_cases q0 : r0 < 0
  · clear hr0
    go_wp2
    go_ret
    exact ⟨-1, rfl, .inl (by omega), BB1.out⟩
  obtain ⟨e0, f0⟩ := hr0.resolve_left q0
  have F0 := hide f0
  have x0 : r0 ≤ 1048576 := by omega
  clear f0 hr0
  go_wp2_with fail
  clear p0 p1 p2 p3
  refine (unhide (C2 (r0) _ (by omega) (by omega) (K2.out.stays BB1.out))).mono ?_
  rintro e z1 ⟨r1, rfl, hr1, hb1⟩
  have B2 := hide (B1.out.stays hb1)
  have BB2 := hide (BB1.out.trans (hb1.mono BB1.out.size))
  have p0 := Lib.cell_of_heap B2.out 0
  have p1 := Lib.cell_of_heap B2.out 1
  have p2 := Lib.cell_of_heap B2.out 2
  have p3 := Lib.cell_of_heap B2.out 3
  simp at p0 p1 p2 p3
  clear hb1
  by_cases q1 : r1 < 0
  · clear hr1
    go_wp2
    go_ret
    exact ⟨-1, rfl, .inl (by omega), BB2.out⟩
  obtain ⟨e1, f1⟩ := hr1.resolve_left q1
  have F1 := hide f1
  have x1 : r1 ≤ 1048576 := by omega
  clear f1 hr1
  go_wp2
  go_ret
  exact ⟨r1, rfl, .inr ⟨by omega, by
    rw [HU.out]
    have q := HM.out
    have := F0.out
    have := F1.out
    omega⟩, BB2.out⟩
set_option maxRecDepth 100000 in
set_option maxHeartbeats 2000000 in
theorem szProcessS_any (v : Value) (xs : List Pr) (l : Int) (w : World) (h0 : 0 ≤ l) (h1 : l ≤ 1048576) (h : PrsAt w v xs) (hm : PrsMax xs) :
    Calls Tryz.prog 11 #[v, .int .i64 l] w fun e w' => ∃ r : Int, e = .returned (.int .i64 r) ∧ (r < 0 ∨ (0 ≤ r ∧ r + (szPrs xs : Nat) = l)) ∧ Below w.heap.size w w' := by
  have HC := hide h
  have HM := hide hm.2
  have hlen : xs.length ≤ 9223372036854775807 := hm.1
  obtain ⟨ao, c, rfl, _⟩ := h
  clear hm
  obtain ⟨n, en⟩ : ∃ n, xs.length = n := ⟨_, rfl⟩
  have EN := hide en
  rw [en] at HC hlen ⊢
  clear en
  have hw : wrap64 (l - (n : Int)) = l - (n : Int) := IntWalk.wrap64_in _ (by omega)
  by_cases hn : l < (n : Int)
  · have hn' : l - (n : Int) < 0 := by omega
    go_enter Tryz.func11, Tryz.ntmps11
    go_wp2
    go_ret
    exact ⟨-1, rfl, .inl (by omega), Below.refl _ _⟩
  · have hn' : ¬ (l - (n : Int) < 0) := by omega
    go_enter Tryz.func11, Tryz.ntmps11
    go_wp2
    go_loopw [5, 1] (SzR w n l (fun k => ((xs.take k).map szPr).sum)) (fun iv _ _ => n - (intOf iv).toNat)
    case atStart => exact ⟨0, _, Nat.zero_le _, rfl, rfl, by omega, by omega, by show _ = _; simp, Below.refl _ _⟩
    case round =>
      obtain ⟨k, l', hk, rfl, rfl, hl0, hl1, HS, HB⟩ := hrel
      by_cases hlt : k < n
      · have hlt' : (k : Int) < (n : Int) := by omega
        have hi0 : (0 : Int) ≤ (k : Int) := by omega
        have hkx : k < xs.length := by rw [EN.out]; exact hlt
        obtain ⟨ao', cc, e5, hc⟩ := HC.out.stays HB.out
        injection e5 with e6 e7 e8
        subst e6
        obtain ⟨a, q1, q2, rfl, hab, hcell⟩ := hc k hkx
        obtain ⟨p, hpa⟩ : ∃ p, a.add (k * 4) = p := ⟨_, rfl⟩
        rw [hpa] at hcell
        obtain ⟨d0, d1, d2, d3, g1, g2⟩ := hcell
        have C := hide (szProcess_any xs[k] q1 q2 l' wr hl0 hl1 g1 g2 (HM.out _ (List.getElem_mem hkx)))
        have HT : Hid (((xs.take (k + 1)).map szPr).sum = ((xs.take k).map szPr).sum + szPr xs[k]) := by
          show _ = _
          rw [List.take_succ_eq_append_getElem hkx, List.map_append, List.sum_append]
          simp
        obtain ⟨qo1, qc1, rfl, _⟩ := g1
        obtain ⟨qo2, qc2, rfl, _⟩ := g2
        obtain ⟨x, ex⟩ : ∃ x, xs[k] = x := ⟨_, rfl⟩
        rw [ex] at C HT d0 d1 d2 d3
        clear ex e7 e8 hc
        go_wp2_with fail
        refine (unhide C).mono ?_
        rintro e w1 ⟨r, rfl, hr, hb1⟩
        have HB1 := hide (HB.out.trans (hb1.mono HB.out.size))
        clear hb1
        by_cases hr0 : r < 0
        · clear hr
          go_wp2
          go_ret
          exact ⟨-1, rfl, .inl (by omega), HB1.out⟩
        · obtain ⟨e0, e1⟩ := hr.resolve_left hr0
          have E1 := hide e1
          have hr1 : r ≤ 1048576 := by omega
          clear hr e1
          go_wp2
          go_roundw
          case rel => exact ⟨k + 1, r, by omega, by go_num, rfl, by omega, by omega, by
            have h1 := HS.out
            (try dsimp only at h1)
            have h2 := HT.out
            have h3 := E1.out
            show _ = _
            (try dsimp only)
            omega, HB1.out⟩
          case measure => simp [intOf]; omega
      · have hlt' : ¬ (k : Int) < (n : Int) := by omega
        go_wp2
        go_ret
        exact ⟨l', rfl, .inr ⟨hl0, by
          have h1 := HS.out
          (try dsimp only at h1)
          rw [List.take_of_length_le (by rw [EN.out]; omega)] at h1
          rw [szPrs, EN.out]
          omega⟩, HB.out⟩
set_option maxRecDepth 100000 in
set_option maxHeartbeats 1000000 in
theorem szProgram_any (x : Pg) (nv mv pv : Value) (l : Int) (w : World) (h0 : 0 ≤ l) (h1 : l ≤ 1048576) (k0 : NdsAt w nv x.nodes) (k1 : MosAt w mv x.mons) (k2 : PrsAt w pv x.pros) (hm : PgMax x) :
    Calls Tryz.prog 4 #[.agg #[nv, mv, pv], .int .i64 l] w fun e w' => ∃ r : Int, e = .returned (.int .i64 r) ∧ (r < 0 ∨ (0 ≤ r ∧ r + (szPg x : Nat) = l)) ∧ Below w.heap.size w w' := by
  have HM := hide hm
  have HU : Hid (szPg x = szNds x.nodes + szMos x.mons + szPrs x.pros) := rfl
  have B0 := hide (Box.made w #[nv, mv, pv] 26)
  have BB : Hid (Below w.heap.size w (w.alloc (.cells #[nv, mv, pv] 26))) := (Below.refl _ _).alloc (Nat.le_refl _) _
  have C0 := fun l w h0 h1 k => hide (szNodeS_any nv x.nodes l w h0 h1 k hm.nodes)
  have K0 := hide k0
  obtain ⟨o0, c0, rfl, _⟩ := k0
  have C1 := fun l w h0 h1 k => hide (szMonitorS_any mv x.mons l w h0 h1 k hm.mons)
  have K1 := hide k1
  obtain ⟨o1, c1, rfl, _⟩ := k1
  have C2 := fun l w h0 h1 k => hide (szProcessS_any pv x.pros l w h0 h1 k hm.pros)
  have K2 := hide k2
  obtain ⟨o2, c2, rfl, _⟩ := k2
  clear hm
  go_enter Tryz.func4, Tryz.ntmps4
  go_wp2_with fail
  refine (unhide (C0 (l) _ (by omega) (by omega) (K0.out.stays BB.out))).mono ?_
  rintro e z0 ⟨r0, rfl, hr0, hb0⟩
  have B1 := hide (B0.out.stays hb0)
  have BB1 := hide (BB.out.trans (hb0.mono BB.out.size))
  have p0 := Lib.cell_of_heap B1.out 0
  have p1 := Lib.cell_of_heap B1.out 1
  have p2 := Lib.cell_of_heap B1.out 2
  simp at p0 p1 p2
  clear hb0
  by_cases q0 : r0 < 0
  · clear hr0
    go_wp2
    go_ret
    exact ⟨-1, rfl, .inl (by omega), BB1.out⟩
  obtain ⟨e0, f0⟩ := hr0.resolve_left q0
  have F0 := hide f0
  have x0 : r0 ≤ 1048576 := by omega
  clear f0 hr0
  go_wp2_with fail
  clear p0 p1 p2
  refine (unhide (C1 (r0) _ (by omega) (by omega) (K1.out.stays BB1.out))).mono ?_
  rintro e z1 ⟨r1, rfl, hr1, hb1⟩
  have B2 := hide (B1.out.stays hb1)
  have BB2 := hide (BB1.out.trans (hb1.mono BB1.out.size))
  have p0 := Lib.cell_of_heap B2.out 0
  have p1 := Lib.cell_of_heap B2.out 1
  have p2 := Lib.cell_of_heap B2.out 2
  simp at p0 p1 p2
  clear hb1
  by_cases q1 : r1 < 0
  · clear hr1
    go_wp2
    go_ret
    exact ⟨-1, rfl, .inl (by omega), BB2.out⟩
  obtain ⟨e1, f1⟩ := hr1.resolve_left q1
  have F1 := hide f1
  have x1 : r1 ≤ 1048576 := by omega
  clear f1 hr1
  go_wp2_with fail
  clear p0 p1 p2
  refine (unhide (C2 (r1) _ (by omega) (by omega) (K2.out.stays BB2.out))).mono ?_
  rintro e z2 ⟨r2, rfl, hr2, hb2⟩
  have B3 := hide (B2.out.stays hb2)
  have BB3 := hide (BB2.out.trans (hb2.mono BB2.out.size))
  have p0 := Lib.cell_of_heap B3.out 0
  have p1 := Lib.cell_of_heap B3.out 1
  have p2 := Lib.cell_of_heap B3.out 2
  simp at p0 p1 p2
  clear hb2
  by_cases q2 : r2 < 0
  · clear hr2
    go_wp2
    go_ret
    exact ⟨-1, rfl, .inl (by omega), BB3.out⟩
  obtain ⟨e2, f2⟩ := hr2.resolve_left q2
  have F2 := hide f2
  have x2 : r2 ≤ 1048576 := by omega
  clear f2 hr2
  go_wp2
  go_ret
  exact ⟨r2, rfl, .inr ⟨by omega, by
    rw [HU.out]
    have q := HM.out
    have := F0.out
    have := F1.out
    have := F2.out
    omega⟩, BB3.out⟩
end Go.Proofs.YtdfahpachbhglaaGreatDoor
