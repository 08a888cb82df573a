/-
  Walks: numbers below a bound and texts that are drawn, and the cursor's making.
-/
import Derived.Test.YtpamglakdnegcaaDoorCurW
namespace Go.Proofs.YtpamglakdnegcaaDoor
open Go.RowKit

/-- Nothing old but one block is written. -/
structure Far (g : Nat) (w w' : World) : Prop where
  os : w'.os = w.os
  tape : w'.tape = w.tape
  output : w'.output = w.output
  size : w.heap.size ≤ w'.heap.size
  far : ∀ b, b ≠ g → b < w.heap.size → w'.heap[b]? = w.heap[b]?
theorem Far.refl (g : Nat) (w : World) : Far g w w := ⟨rfl, rfl, rfl, Nat.le_refl _, fun _ _ _ => rfl⟩
theorem Far.trans {g : Nat} {a b c : World} (h : Far g a b) (k : Far g b c) : Far g a c :=
  ⟨k.os.trans h.os, k.tape.trans h.tape, k.output.trans h.output, Nat.le_trans h.size k.size, fun i hi hl => (k.far i hi (Nat.lt_of_lt_of_le hl h.size)).trans (h.far i hi hl)⟩
theorem Only.toFar {g : Nat} {w w' : World} (h : Only g w w') : Far g w w' := ⟨h.bel.os, h.bel.tape, h.bel.output, Nat.le_of_eq h.size.symm, fun b hb _ => h.far b hb⟩
theorem Far.ofBelow {g : Nat} {w w' : World} (h : Below w.heap.size w w') : Far g w w' := ⟨h.os, h.tape, h.output, h.size, fun b _ hl => h.block b hl⟩
theorem Far.below {g B : Nat} {w w' : World} (h : Far g w w') (hg : B ≤ g) (hs : B ≤ w.heap.size) : Below B w w' :=
  ⟨h.os, h.tape, h.output, h.size, fun b hb => h.far b (by omega) (by omega)⟩
theorem Below.far' {g B : Nat} {a w w' : World} (h : Far g a w) (hB : a.heap.size ≤ B) (k : Below B w w') : Far g a w' :=
  ⟨k.os.trans h.os, k.tape.trans h.tape, k.output.trans h.output, Nat.le_trans h.size k.size, fun b hb hl => (k.block b (by omega)).trans (h.far b hb hl)⟩
/-- A row that is owned stays where another block is written. -/
theorem ownsRow_far {g : Nat} {w w' : World} {base : Nat} {e : TypeId} {v : Value} {n : Nat} {xs : List Value} (h : w.ownsRow base e 1 v n xs) (hf : Far g w w') (hg : g < base) : w'.ownsRow base e 1 v n xs := by
  refine ⟨h.1, ?_⟩
  rcases h.2 with ⟨h1, h2⟩ | ⟨b, cap, cur, h1, h2, h3, h4, h5, h6, h7⟩
  · exact .inl ⟨h1, h2⟩
  · refine .inr ⟨b, cap, cur, h1, h2, ?_, h4, h5, h6, h7⟩
    rw [hf.far b (by omega) (by have := (Array.getElem?_eq_some_iff.1 h3).1; exact this)]
    exact h3

/-- A cursor that stands. -/
structure Cur (w : World) (base g : Nat) : Prop where
  ge : base ≤ g
  lt : g < w.heap.size
  at_ : ∃ v n i h, n ≤ 1048576 ∧ CurAt w g v n i h ∧ CodeAt w base v n
theorem CodeAt.below {w w' : World} {base : Nat} {v : Value} {n : Nat} (h : CodeAt w base v n) (hb : Below base w w') : CodeAt w' base v n := by
  rcases h with h | ⟨ad, cap, xs, e, hc, hx⟩
  · exact .inl h
  · refine .inr ⟨ad, cap, xs, e, hc, fun j hj => ?_⟩
    obtain ⟨h1, h2, h3⟩ := hx j hj
    have hbk : (ad.add j).block < base := by simp only [Addr.add]; split <;> exact h1
    exact ⟨h1, h2, by rw [hb.cell hbk]; exact h3⟩
theorem CurAt.below {w w' : World} {g : Nat} {v : Value} {n i : Nat} {h : Int} (C : CurAt w g v n i h) (hb : Below (g + 1) w w') : CurAt w' g v n i h := by
  have hc : ∀ o, w'.cell? ⟨g, o, none⟩ = w.cell? ⟨g, o, none⟩ := fun o => hb.cell (p := ⟨g, o, none⟩) (by show g < g + 1; omega)
  have hf : ∀ o, w'.frozen? ⟨g, o, none⟩ = w.frozen? ⟨g, o, none⟩ := fun o => hb.frozen (p := ⟨g, o, none⟩) (by show g < g + 1; omega)
  exact ⟨C.le, by rw [hc]; exact C.c0, by rw [hc]; exact C.c1, by rw [hc]; exact C.c2, by rw [hf]; exact C.f1, by rw [hf]; exact C.f2⟩
theorem Cur.below {w w' : World} {base g : Nat} (C : Cur w base g) (hb : Below (g + 1) w w') : Cur w' base g := by
  obtain ⟨v, n, i, h, hn, hc, hd⟩ := C.at_
  exact ⟨C.ge, Nat.lt_of_lt_of_le C.lt hb.size, v, n, i, h, hn, hc.below hb, hd.below (hb.mono (by have := C.ge; omega))⟩
theorem CodeAt.slice {w : World} {base : Nat} {v : Value} {n : Nat} (h : CodeAt w base v n) : ∃ a c, v = .slice a n c := by
  rcases h with ⟨rfl, rfl⟩ | ⟨ad, cap, xs, rfl, _, _⟩
  · exact ⟨_, _, rfl⟩
  · exact ⟨_, _, rfl⟩

theorem byte_any (w : World) (base g : Nat) (C : Cur w base g) :
    Calls Tryd.prog 41 #[.pointer (some ⟨g, 0, none⟩)] w fun e w' => ∃ (x : Nat), x < 256 ∧ e = .returned (.int .i64 x) ∧ Far g w w' ∧ Cur w' base g := by
  obtain ⟨v, n, i, h, hn, hc, hd⟩ := C.at_
  by_cases hi : i = n
  · refine (byte_end w g v n i h hn hd.slice hc hi).mono fun e w' ⟨x, hx, he, ho, i', h', hc'⟩ => ⟨x, hx, he, ho.toFar, ⟨C.ge, by rw [ho.size]; exact C.lt, v, n, i', h', hn, hc', hd.below (ho.bel.mono C.ge)⟩⟩
  · have hlt : i < n := Nat.lt_of_le_of_ne hc.le hi
    rcases hd with ⟨_, rfl⟩ | ⟨ad, cap, xs, rfl, hcap, hx⟩
    · omega
    · have hd : CodeAt w base (.slice (some ad) n cap) n := .inr ⟨ad, cap, xs, rfl, hcap, hx⟩
      obtain ⟨h1, h2, h3⟩ := hx i hlt
      have hg : ad.block ≠ g := by have := C.ge; omega
      refine (byte_in w g ad n cap i _ h hn hc hlt hg h2 h3).mono fun e w' ⟨x, hx, he, ho, i', h', hc'⟩ => ⟨x, hx, he, ho.toFar, ⟨C.ge, by rw [ho.size]; exact C.lt, _, n, i', h', hn, hc', hd.below (ho.bel.mono C.ge)⟩⟩

/-- A number below a bound is drawn. -/
theorem below_any (w : World) (base g : Nat) (n : Nat) (hn : n ≤ 4294967296) (C : Cur w base g) :
    Calls Tryd.prog 25 #[.pointer (some ⟨g, 0, none⟩), .int .i64 n] w fun e w' => ∃ (x : Nat), (x < n ∨ n = 0 ∧ x = 0) ∧ e = .returned (.int .i64 x) ∧ Far g w w' ∧ Cur w' base g := by
  by_cases h0 : n = 0
  · subst h0
    go_enter Tryd.func25, Tryd.ntmps25
    go_wp2
    go_ret
    exact ⟨0, .inr (by simp), rfl, Far.refl _ _, C⟩
  · by_cases h1 : n ≤ 256
    · have HC := hide C
      clear C
      go_enter Tryd.func25, Tryd.ntmps25
      go_wp2_with (go_at_call 41; refine (byte_any _ base g HC.out).mono ?_; rintro e w1 ⟨x, hx, rfl, hf, hc⟩)
      go_ret
      exact ⟨x % n, .inl (Nat.mod_lt _ (by omega)), rfl, hf, hc⟩
    · have HC := hide C
      clear C
      go_enter Tryd.func25, Tryd.ntmps25
      go_wp2_with (first | (go_at_call 41; refine (byte_any _ base g HC.out).mono ?_; rintro e w1 ⟨x1, hx1, rfl, hf1, hc1⟩) | (go_at_call 41; refine (byte_any _ base g hc1).mono ?_; rintro e w2 ⟨x2, hx2, rfl, hf2, hc2⟩) | (go_at_call 41; refine (byte_any _ base g hc2).mono ?_; rintro e w3 ⟨x3, hx3, rfl, hf3, hc3⟩) | (go_at_call 41; refine (byte_any _ base g hc3).mono ?_; rintro e w4 ⟨x4, hx4, rfl, hf4, hc4⟩))
      go_ret
      exact ⟨(x1 * 16777216 + x2 * 65536 + x3 * 256 + x4) % n, .inl (Nat.mod_lt _ (by omega)), rfl, ((hf1.trans hf2).trans hf3).trans hf4, hc4⟩
theorem Tryd.infoB : (Tryd.prog.info? 5).map (fun i => (i.zero, i.size, i.bytes)) = some (some (.int .u8 0), 1, 1) := by kernel_rfl
theorem Tryd.infoI : (Tryd.prog.info? 3).map (fun i => (i.zero, i.size, i.bytes)) = some (some (.int .i64 0), 1, 8) := by kernel_rfl
end Go.Proofs.YtpamglakdnegcaaDoor
