/-
  Walks: how much a program holds, by the laws' own helpers.
-/
import Derived.Test.YtgeomgghecmkbaaLawW
namespace Go.Proofs.Ytgeomgghecmkbaa
open Go.RowKit

def szStrs (xs : List ByteArray) : Nat := xs.length + (xs.map ByteArray.size).sum
def szNd (x : Nd) : Nat := x.name.size + x.more.size + x.into.size + x.kids.length
def szNds (xs : List Nd) : Nat := xs.length + (xs.map szNd).sum
def szEn (x : En) : Nat := x.name.size + x.param.size
def szEns (xs : List En) : Nat := xs.length + (xs.map szEn).sum
def szMo (x : Mo) : Nat := x.name.size + szStrs x.vars + szStrs x.queues + szEns x.ents
def szMos (xs : List Mo) : Nat := xs.length + (xs.map szMo).sum
def szPr (x : Pr) : Nat := x.name.size + szStrs x.uses + szStrs x.vars
def szPrs (xs : List Pr) : Nat := xs.length + (xs.map szPr).sum
def szPg (x : Pg) : Nat := szNds x.nodes + szMos x.mons + szPrs x.pros

/-- What a reading says of lengths. -/
def IntsMax (xs : List Int) : Prop := xs.length ≤ maxLen
def StrsMax (xs : List ByteArray) : Prop := xs.length ≤ maxLen ∧ ∀ x ∈ xs, x.size ≤ maxLen
structure NdMax (x : Nd) : Prop where
  name : x.name.size ≤ maxLen
  more : x.more.size ≤ maxLen
  into : x.into.size ≤ maxLen
  kids : IntsMax x.kids
def NdsMax (xs : List Nd) : Prop := xs.length ≤ maxLen ∧ ∀ x ∈ xs, NdMax x
structure EnMax (x : En) : Prop where
  name : x.name.size ≤ maxLen
  param : x.param.size ≤ maxLen
def EnsMax (xs : List En) : Prop := xs.length ≤ maxLen ∧ ∀ x ∈ xs, EnMax x
structure MoMax (x : Mo) : Prop where
  name : x.name.size ≤ maxLen
  vars : StrsMax x.vars
  queues : StrsMax x.queues
  ents : EnsMax x.ents
def MosMax (xs : List Mo) : Prop := xs.length ≤ maxLen ∧ ∀ x ∈ xs, MoMax x
structure PrMax (x : Pr) : Prop where
  name : x.name.size ≤ maxLen
  uses : StrsMax x.uses
  vars : StrsMax x.vars
def PrsMax (xs : List Pr) : Prop := xs.length ≤ maxLen ∧ ∀ x ∈ xs, PrMax x
structure PgMax (x : Pg) : Prop where
  nodes : NdsMax x.nodes
  mons : MosMax x.mons
  pros : PrsMax x.pros

def SzR (w : World) (n : Nat) (l : Int) (f : Nat → Nat) (iv lv : Value) (wr : World) : Prop :=
  ∃ (k : Nat) (l' : Int), k ≤ n ∧ iv = .int .i64 k ∧ lv = .int .i64 l' ∧ 0 ≤ l' ∧ l' ≤ 1048576 ∧ Hid (l' + (n : Int) + (f k : Nat) = l) ∧ Hid (Below w.heap.size w wr)

set_option maxHeartbeats 1000000 in
theorem szIntS_any (v : Value) (xs : List Int) (l : Int) (w : World) (h0 : 0 ≤ l) (h1 : l ≤ 1048576) (h : IntsAt w v xs) (hm : IntsMax xs) :
    Calls Try.prog 10 #[v, .int .i64 l] w fun e w' => ∃ r : Int, e = .returned (.int .i64 r) ∧ (r < 0 ∨ (0 ≤ r ∧ r + (xs.length : Nat) = l)) ∧ Below w.heap.size w w' := by
  have hlen : xs.length ≤ 9223372036854775807 := hm
  obtain ⟨ao, c, rfl, _⟩ := h
  obtain ⟨n, en⟩ : ∃ n, xs.length = n := ⟨_, rfl⟩
  rw [en] at hlen ⊢
  clear en hm
  have hw : wrap64 (l - (n : Int)) = l - (n : Int) := IntWalk.wrap64_in _ (by omega)
  by_cases hn : l < (n : Int)
  · have hn' : l - (n : Int) < 0 := by omega
    go_enter Try.func10, Try.ntmps10
    go_wp2
    go_ret
    exact ⟨-1, rfl, .inl (by omega), Below.refl _ _⟩
  · have hn' : ¬ (l - (n : Int) < 0) := by omega
    go_enter Try.func10, Try.ntmps10
    go_wp2
    go_ret
    exact ⟨l - n, rfl, .inr ⟨by omega, by omega⟩, Below.refl _ _⟩

set_option maxRecDepth 100000 in
set_option maxHeartbeats 2000000 in
theorem szStringS_any (v : Value) (xs : List ByteArray) (l : Int) (w : World) (h0 : 0 ≤ l) (h1 : l ≤ 1048576) (h : StrsAt w v xs) (hm : StrsMax xs) :
    Calls Try.prog 9 #[v, .int .i64 l] w fun e w' => ∃ r : Int, e = .returned (.int .i64 r) ∧ (r < 0 ∨ (0 ≤ r ∧ r + (szStrs xs : Nat) = l)) ∧ Below w.heap.size w w' := by
  have HC := hide h
  have HM := hide hm.2
  have hlen : xs.length ≤ 9223372036854775807 := hm.1
  obtain ⟨ao, c, rfl, _⟩ := h
  clear hm
  obtain ⟨n, en⟩ : ∃ n, xs.length = n := ⟨_, rfl⟩
  have EN := hide en
  rw [en] at HC hlen ⊢
  clear en
  have hw : wrap64 (l - (n : Int)) = l - (n : Int) := IntWalk.wrap64_in _ (by omega)
  by_cases hn : l < (n : Int)
  · have hn' : l - (n : Int) < 0 := by omega
    go_enter Try.func9, Try.ntmps9
    go_wp2
    go_ret
    exact ⟨-1, rfl, .inl (by omega), Below.refl _ _⟩
  · have hn' : ¬ (l - (n : Int) < 0) := by omega
    go_enter Try.func9, Try.ntmps9
    go_wp2
    go_loopw [5, 1] (SzR w n l (fun k => ((xs.take k).map ByteArray.size).sum)) (fun iv _ _ => n - (intOf iv).toNat)
    case atStart => exact ⟨0, _, Nat.zero_le _, rfl, rfl, by omega, by omega, by show _ = _; simp, Below.refl _ _⟩
    case round =>
      obtain ⟨k, l', hk, rfl, rfl, hl0, hl1, HS, HB⟩ := hrel
      by_cases hlt : k < n
      · have hlt' : (k : Int) < (n : Int) := by omega
        have hi0 : (0 : Int) ≤ (k : Int) := by omega
        have hkx : k < xs.length := by rw [EN.out]; exact hlt
        obtain ⟨ao', cc, e5, hc⟩ := HC.out.stays HB.out
        injection e5 with e6 e7 e8
        subst e6
        obtain ⟨a, rfl, hab, hcell⟩ := hc k hkx
        have hsz : xs[k].size ≤ 9223372036854775807 := HM.out _ (List.getElem_mem hkx)
        have HT : Hid (((xs.take (k + 1)).map ByteArray.size).sum = ((xs.take k).map ByteArray.size).sum + ByteArray.size xs[k]) := by
          show _ = _
          rw [List.take_succ_eq_append_getElem hkx, List.map_append, List.sum_append]
          simp
        obtain ⟨x, ex⟩ : ∃ x, xs[k] = x := ⟨_, rfl⟩
        rw [ex] at hsz HT hcell
        clear ex e7 e8 hc
        have hw2 : wrap64 (l' - (x.size : Int)) = l' - (x.size : Int) := IntWalk.wrap64_in _ (by omega)
        by_cases hr0 : l' < (x.size : Int)
        · have hr0' : l' - (x.size : Int) < 0 := by omega
          go_wp2
          go_ret
          exact ⟨-1, rfl, .inl (by omega), HB.out⟩
        · have hr0' : ¬ (l' - (x.size : Int) < 0) := by omega
          go_wp2
          go_roundw
          case rel => exact ⟨k + 1, l' - (x.size : Int), by omega, by go_num, rfl, by omega, by omega, by
            have h1 := HS.out
            (try dsimp only at h1)
            have h2 := HT.out
            show _ = _
            (try dsimp only)
            omega, HB.out⟩
          case measure => simp [intOf]; omega
      · have hlt' : ¬ (k : Int) < (n : Int) := by omega
        go_wp2
        go_ret
        exact ⟨l', rfl, .inr ⟨hl0, by
          have h1 := HS.out
          (try dsimp only at h1)
          rw [List.take_of_length_le (by rw [EN.out]; omega)] at h1
          rw [szStrs, EN.out]
          omega⟩, HB.out⟩
end Go.Proofs.Ytgeomgghecmkbaa
