/-
  Walks: an if and a block made of their types; nodes held against each other, kids ahead of a node, by the program.
-/
import Derived.Test.YthlbboppdmdceaaImpD
import Derived.Test.YthlbboppdmdceaaBoxP
import Derived.Test.YthlbboppdmdceaaTreeZ
namespace Go.Proofs.Ythlbboppdmdceaa
open Go.RowKit

theorem IntsAt.more {w : World} {g : Nat} (hg : g = w.heap.size) (xs : List Int) (zs : Array Value) (t : TypeId) (n c : Nat) (hn : n = xs.length) : IntsAt (w.alloc (.cells ((xs.map I64).toArray ++ zs) t)) (.slice (some ⟨g, 0, none⟩) n c) xs := by
  subst hg hn
  refine ⟨_, c, rfl, fun j hj => ⟨_, rfl, by simp, ?_⟩⟩
  have e : (⟨w.heap.size, 0, none⟩ : Addr).add j = ⟨w.heap.size, j, none⟩ := by
    simp only [Addr.add]
    split
    · next h => subst h; rfl
    · simp
  rw [e, World.cell?_alloc_new]
  rw [Array.getElem?_append_left (by simpa using hj)]
  simp [hj, I64]
def ifKids (a b c : Int) : List Int := if c = -1 then [a, b] else [a, b, c]

set_option maxRecDepth 100000 in
set_option maxHeartbeats 1000000 in
theorem ifNode_node (a b c : Int) (w : World) :
    Calls Try.prog 102 #[.agg #[.int .i64 a, .int .i64 b, .int .i64 c]] w fun e w' => ∃ v, e = .returned v ∧ NodeV w' ⟨12, 0, ByteArray.empty, ByteArray.empty, ByteArray.empty, ifKids a b c⟩ v ∧ Below w.heap.size w w' := by
  by_cases hc : c = -1
  · have HK : Hid (ifKids a b c = [a, b]) := if_pos hc
    rw [HK.out]
    subst hc
    go_enter Try.func102, Try.ntmps102
    go_wp2
    go_returns
    exact ⟨_, rfl, ⟨_, rfl, IntsAt.made (by simp) [a, b] 3 2 2 rfl⟩, by go_grown⟩
  · have HK : Hid (ifKids a b c = [a, b, c]) := if_neg hc
    rw [HK.out]
    go_enter Try.func102, Try.ntmps102
    go_wp2
    go_returns
    exact ⟨_, rfl, ⟨_, rfl, (IntsAt.more (by simp) [a, b, c] _ 3 3 _ rfl).stays (Below.refl _ _).drew⟩, by go_grown⟩

set_option maxHeartbeats 1000000 in
theorem blockNode_node (v : Value) (ks : List Int) (w : World) (hK : IntsAt w v ks) (hl : ks.length ≤ 1048576) :
    Calls Try.prog 110 #[.agg #[v]] w fun e w' => ∃ v, e = .returned v ∧ NodeV w' ⟨20, 0, ByteArray.empty, ByteArray.empty, ByteArray.empty, ks⟩ v ∧ Below w.heap.size w w' := by
  have C := fun w h => hide (clone_any v ks w h hl)
  have HP : Hid (Box ((w.alloc (.cells #[v] 107)).alloc (.cells #[.int .i64 0, .int .i64 0, .string ⟨#[]⟩, .string ⟨#[]⟩, .string ⟨#[]⟩, .slice none 0 0] 45)) (w.heap.size + 1) #[.int .i64 0, .int .i64 0, .string ⟨#[]⟩, .string ⟨#[]⟩, .string ⟨#[]⟩, .slice none 0 0] 45) := Box.madeAt (by simp) _ _
  have HK : Hid (IntsAt ((w.alloc (.cells #[v] 107)).alloc (.cells #[.int .i64 0, .int .i64 0, .string ⟨#[]⟩, .string ⟨#[]⟩, .string ⟨#[]⟩, .slice none 0 0] 45)) v ks) := (hK.stays ((Below.refl _ _).alloc (Nat.le_refl _) _)).stays ((Below.refl _ _).alloc (Nat.le_refl _) _)
  have HB0 : Hid (Below w.heap.size w ((w.alloc (.cells #[v] 107)).alloc (.cells #[.int .i64 0, .int .i64 0, .string ⟨#[]⟩, .string ⟨#[]⟩, .string ⟨#[]⟩, .slice none 0 0] 45))) := by show Below _ _ _; go_grown
  obtain ⟨ao, c, rfl, _⟩ := hK
  clear hl
  go_enter Try.func110, Try.ntmps110
  go_wp2_with (go_at_call 111; refine (unhide (C _ HK.out)).mono ?_; rintro e w2 ⟨v2, rfl, hv2, hb2⟩; have HB := hide (HB0.out.trans (hb2.mono HB0.out.size)); have HW := hide hv2; obtain ⟨o2, c2, rfl, hr2, hc2⟩ := hv2; rw [List.length_map] at HW; have hlm : (ks.map I64).length = ks.length := List.length_map ..; have hp := HP.out.stays hb2; have HQ := hide hp; have f0 := Lib.cell_of_heap hp 0; have f1 := Lib.cell_of_heap hp 1; have f2 := Lib.cell_of_heap hp 2; have f3 := Lib.cell_of_heap hp 3; have f4 := Lib.cell_of_heap hp 4; have f5 := Lib.cell_of_heap hp 5; have z0 := Lib.frozen_of_heap hp 0; have z1 := Lib.frozen_of_heap hp 1; have z2 := Lib.frozen_of_heap hp 2; have z3 := Lib.frozen_of_heap hp 3; have z4 := Lib.frozen_of_heap hp 4; have z5 := Lib.frozen_of_heap hp 5; simp at f0 f1 f2 f3 f4 f5; clear hb2 hc2 hp hr2)
  refine box_ret (g := w.heap.size + 1) (cs := #[.int .i64 20, .int .i64 0, .string ⟨#[]⟩, .string ⟨#[]⟩, .string ⟨#[]⟩, .slice o2 ks.length c2]) rfl rfl (by simpa using (((((HQ.out.set 0 _).set 1 _).set 2 _).set 3 _).set 4 _).set 5 _) _ Try.underlying45 rfl (by kernel_rfl) rfl ?_
  refine ⟨_, rfl, ⟨_, rfl, ?_⟩, ?_⟩
  · refine IntsIn.at (base := w.heap.size + 2) ?_
    iterate 6 refine CellsIn.kept ?_ (KeptFrom.setCell (by omega) _ _ _)
    have := HW.out.mono (base' := w.heap.size + 2) (by simp)
    simpa using this
  · exact (((((HB.out.setCell (by simp) _).setCell (by simp) _).setCell (by simp) _).setCell (by simp) _).setCell (by simp) _).setCell (by simp) _
end Go.Proofs.Ythlbboppdmdceaa
