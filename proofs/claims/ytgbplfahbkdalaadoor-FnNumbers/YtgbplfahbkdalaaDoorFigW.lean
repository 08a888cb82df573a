/-
  Walks: what the figures of a text are worth, by the program.
-/
import Derived.Test.YtgbplfahbkdalaaDoorAidF
import Derived.Test.YtgbplfahbkdalaaDoorHexI
import Derived.BigQuiet
import Derived.WalkSmall
import Derived.Deep.LoopGhost
import Derived.WalkMore
namespace Go.Proofs.YtgbplfahbkdalaaDoor
open Go.RowKit

theorem Tryd.info3 : (Tryd.prog.info? 3).map (fun i => (i.zero, i.size, i.bytes)) = some (some (.int .i64 0), 1, 8) := by kernel_rfl

theorem makeInts_run (n : Nat) (hn : n ≤ 40000) : ∃ M : Array Value, M.size = n ∧ ∀ w : World, (Instr.makeSlice 39 (.int .i64 0) (.int .i64 (n : Int))).run Tryd.prog w = .ok (.slice (some ⟨w.heap.size, 0, none⟩) 0 n) (w.alloc (.cells M 3)) := by
  obtain ⟨i0, hi, hz0, hz1, hz2⟩ := info_parts Tryd.info3
  refine ⟨madeCells (Value.int .i64 0).cells (((n : Nat) : Int).toNat * i0.size), by rw [size_madeCells, hz1]; simp, fun w => ?_⟩
  have h := run_make (P := Tryd.prog) w 39 3 i0 (.int .i64 0) Tryd.underlying39 hi hz0 .i64 .i64 0 (n : Int) (by omega) (by omega) (by rw [hz2]; omega) (by omega)
  simpa using h

theorem tab_run64 {P : Program} {t : TypeId} (ht : P.underlying t = some .string) (x : Int) (h0 : 0 ≤ x) (h1 : x < 16) (w : World) :
    (Instr.index t (.string ⟨#[48, 49, 50, 51, 52, 53, 54, 55, 56, 57, 97, 98, 99, 100, 101, 102]⟩) (.int .i64 x)).run P w = .ok (.int .u8 (figI x)) w := by
  have : x = 0 ∨ x = 1 ∨ x = 2 ∨ x = 3 ∨ x = 4 ∨ x = 5 ∨ x = 6 ∨ x = 7 ∨ x = 8 ∨ x = 9 ∨ x = 10 ∨ x = 11 ∨ x = 12 ∨ x = 13 ∨ x = 14 ∨ x = 15 := by omega
  rcases this with h | h | h | h | h | h | h | h | h | h | h | h | h | h | h | h <;> subst h <;> (rw [run_index_string (h := ht)]; rfl)

/-- What the outer loop keeps: g rounds are to come. -/
def FigRel (base : Nat) (s : ByteArray) (w : World) (g : Nat) (v i : Value) (wr : World) : Prop :=
  ∃ (k : Nat) (ds : List Int), k + g = s.size ∧ i = .int .i64 k ∧ ds.length = k ∧ Hid (numsB base (s.data.toList.take k) = some ds) ∧ wr.ownsRow w.heap.size 3 1 v k (ds.map (Value.int .i64)) ∧ Below w.heap.size w wr

set_option maxRecDepth 100000 in
set_option maxHeartbeats 1000000 in
theorem figuresOf_any (base : Nat) (s : ByteArray) (w : World) (hs : s.size ≤ 40000) (hbase : base ≤ 16) :
    Calls Tryd.prog 17 #[.string s, .int .i64 base] w fun e w' => (∃ v ds, e = .returned (.tuple #[v, .bool true]) ∧ numsB base s.data.toList = some ds ∧ w'.ownsRow w.heap.size 3 1 v s.size (ds.map (Value.int .i64)) ∧ Below w.heap.size w w') ∨
      (e = .returned (.tuple #[.slice none 0 0, .bool false]) ∧ numsB base s.data.toList = none ∧ Below w.heap.size w w') := by
  obtain ⟨M, hM, hmk⟩ := makeInts_run s.size hs
  have HM := hide hM
  clear hM
  go_enter Tryd.func17, Tryd.ntmps17
  go_wp2
  go_step3
  go_wp2
  go_step3
  go_wp2
  clear hmk
  go_loopg [6, 7] s.size (fun g v i wr => FigRel base s w g v i wr)
  case atStart => exact ⟨0, [], by omega, rfl, rfl, rfl, World.ownsRow_made w M s.size (Nat.le_refl _) (by unfold maxLen; omega) (by rw [HM.out]; omega), (Below.refl _ _).alloc (Nat.le_refl _) _⟩
  case round =>
    obtain ⟨k, ds, hk, rfl, hds, hnums, hown, hb⟩ := hrel
    have hsz := hb.size
    cases gk with
    | zero =>
      have hkz : ¬ ((k : Int) < (s.size : Int)) := by omega
      have hf : numsB base s.data.toList = some ds := by rw [← hnums.out, take_all s k (by omega)]
      have hks : k = s.size := by omega
      have HK := hide hks
      have HF := hide hf
      clear hf hks
      go_wp2
      go_ret2
      exact .inl ⟨_, ds, rfl, HF.out, by rw [← HK.out]; exact hown, hb⟩
    | succ g =>
      have hlt : k < s.size := by omega
      have hlt' : (k : Int) < (s.size : Int) := by omega
      obtain ⟨c, hc⟩ : ∃ c : Nat, c = s[k].toNat := ⟨_, rfl⟩
      have hb8 : c < 256 := by rw [hc]; exact s[k].toNat_lt
      have hix : ∀ wx : World, (Instr.index 9 (.string s) (.int .i64 (k : Int))).run Tryd.prog wx = .ok (.int .u8 (c : Int)) wx := fun wx => by
        rw [hc]; exact index_str Tryd.underlying9 s k hlt wx
      have HC := hide hc
      clear hc
      have HO := hide hown
      have HB := hide hb
      clear hown hb
      go_wp2
      go_loopg [6, 8] base (fun g' v' n w2 => v' = u6 ∧ ∃ j : Nat, j + g' = base ∧ n = .int .i64 j ∧ Hid (∀ t : Nat, t < j → figI (t : Int) ≠ (c : Int)) ∧ Hid (w2.ownsRow w.heap.size 3 1 u6 k (ds.map (Value.int .i64))) ∧ Hid (Below w.heap.size w w2))
      case atStart => exact ⟨rfl, 0, by omega, rfl, fun t ht => absurd ht (Nat.not_lt_zero t), HO, HB⟩
      case round =>
        obtain ⟨rfl, j, hj, rfl, hno, hown, hb⟩ := hrel
        clear HO HB
        cases gk with
        | zero =>
          have hjz : ¬ ((j : Int) < (base : Int)) := by omega
          have HF := hide (numsB_bad (base := base) s.data.toList s[k] (mem_at s k hlt) (by rw [← HC.out]; exact dv_none (fun t ht => hno.out t (by omega))))
          go_wp2
          go_ret2
          exact .inr ⟨rfl, HF.out, hb.out⟩
        | succ g2 =>
          have hjz : (j : Int) < (base : Int) := by omega
          have htab := tab_run64 (P := Tryd.prog) Tryd.underlying9 (j : Int) (by omega) (by omega)
          cases he : (figI (j : Int) == (c : Int)) with
          | true =>
            have HE := hide (numsB_step hlt hnums.out (by rw [← HC.out]; exact dv_of (base := base) (c := c) (d := j) (by omega) (by omega) (by simpa using he)))
            go_wp2
            go_quiet (fail)
            have hown2 : (wr.drewN nq).ownsRow w.heap.size 3 1 u6 k (ds.map (Value.int .i64)) := hown.out
            have hb2 : Below w.heap.size w (wr.drewN nq) := below_drewN hb.out nq
            have hsz2 := hb2.size
            have HB2 := hide hb2
            clear hb2
            go_wp2_with (at_builtin; refine wpList_app1 rfl (.tmp 29) (.tmp 31) 39 rfl w.heap.size 3 (.int .i64 0) 8 Tryd.underlying39 Tryd.info3 rfl _ k _ _ rfl hown2 rfl rfl (by unfold maxLen; omega) (by omega) (by omega) ?_)
            intro v' w1 hown3 hb3
            have HR := hide hown3
            have HB3 := hide hb3
            clear hown3 hb3 hown2
            go_wp2
            go_roundg g
            case measure => omega
            case rel => exact ⟨k + 1, ds ++ [(j : Int)], by omega, by go_num, by simp; omega, HE, by have := HR.out; simpa using this, HB2.out.trans HB3.out⟩
          | false =>
            have hne : figI (j : Int) ≠ (c : Int) := by simpa using he
            have HN := hide hne
            clear hne
            go_wp2
            go_quiet (fail)
            go_wp2
            go_roundg g2
            case measure => omega
            case rel => exact ⟨rfl, j + 1, by omega, by go_num, fun t ht => by rcases Nat.lt_succ_iff_lt_or_eq.1 ht with h | h; · exact hno.out t h
                                                                               · subst h; exact HN.out, hown.out, below_drewN hb.out nq⟩
end Go.Proofs.YtgbplfahbkdalaaDoor
