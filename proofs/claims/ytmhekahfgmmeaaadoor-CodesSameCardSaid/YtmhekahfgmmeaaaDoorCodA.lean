import Derived.Test.YtmhekahfgmmeaaaDoorRows
import Derived.WalkKit
import Derived.LaidEql
import Derived.Stop.Asserts
import Derived.RowKitTokens
import Derived.Lib.Hide
import Derived.Deep.LoopGhost
import Derived.WalkLawsBesides
import Derived.WalkSpells
set_option linter.unusedVariables false
set_option linter.unusedSimpArgs false
namespace Go.Proofs.YtmhekahfgmmeaaaDoor
open Go.RowKit Go.Extern.Stop Go.Stop Go.Extern
theorem cell_on {W w1 : World} (hb : Below W.heap.size W w1) {p : Addr} {v : Value} (h : W.cell? p = some v) : w1.cell? p = some v := by
  rw [hb.cell (World.block_lt_of_cell? W p h)]; exact h
theorem frozen_on {W w1 : World} (hb : Below W.heap.size W w1) {p : Addr} {v : Value} (h : W.cell? p = some v) (hf : W.frozen? p = false) : w1.frozen? p = false := by
  rw [hb.frozen (World.block_lt_of_cell? W p h)]; exact hf
theorem on_trans {w w1 w2 : World} (h1 : Below w.heap.size w w1) (h2 : Below w1.heap.size w1 w2) : Below w.heap.size w w2 := h1.trans (h2.mono h1.size)
/-- So many wraps by *outer, each in a block of its own that is none below lo, around a base. -/
def Chain (w : World) (lo : Nat) : Nat → Value → Value → Prop
  | 0, e, base => e = base
  | k + 1, e, base => ∃ (b : Nat) (u : TypeId) (x : Value), e = .iface 54 (.pointer (some ⟨b, 0, none⟩)) ∧ lo ≤ b ∧ w.cell? ⟨b, 0, none⟩ = some (.iface u x) ∧ Chain w lo k (.iface u x) base
theorem Chain.on {W w1 : World} {lo : Nat} (hb : Below W.heap.size W w1) : ∀ {k : Nat} {e base : Value}, Chain W lo k e base → Chain w1 lo k e base
  | 0, _, _, h => h
  | k + 1, e, base, ⟨b, u, x, he, hl, hc, h⟩ => ⟨b, u, x, he, hl, cell_on hb hc, Chain.on hb h⟩
/-- What errors.As leaves: the target's variable holds v; all other blocks that were there are as they were. -/
def Touch (w : World) (t : Addr) (v : Value) (w' : World) : Prop := w'.cell? t = some v ∧ w'.frozen? t = false ∧ w.heap.size ≤ w'.heap.size ∧ (∀ B, B ≤ t.block → Below B w w') ∧ (∀ b, b ≠ t.block → b < w.heap.size → w'.heap[b]? = w.heap[b]?)
theorem touch_set {w w1 : World} {t : Addr} {old v : Value} (hb : Below w.heap.size w w1) (ht : w.cell? t = some old) (hf : w.frozen? t = false) : Touch w t v (w1.setCell t v) := by
  have hl := World.block_lt_of_cell? w t ht
  refine ⟨World.cell?_setCell_same _ _ _ (cell_on hb ht), by rw [World.frozen?_setCell]; exact frozen_on hb ht hf, by have := hb.size; simpa using this, fun B hB => ?_, fun b hq hlt => ?_⟩
  · exact (hb.mono (by omega)).setCell hB v
  · rw [heap_setCell_other w1 t b v hq]
    exact hb.block b hlt
theorem Touch.cell {w w' : World} {t : Addr} {v : Value} (h : Touch w t v w') {q : Addr} {u : Value} (hq : q.block ≠ t.block) (hc : w.cell? q = some u) : w'.cell? q = some u := by
  rw [World.cell?_of_block (w := w) (h.2.2.2.2 q.block hq (World.block_lt_of_cell? w q hc))]
  exact hc
theorem Chain.touch {w w' : World} {t : Addr} {v : Value} {lo : Nat} (h : Touch w t v w') (hlo : t.block < lo) : ∀ {k : Nat} {e base : Value}, Chain w lo k e base → Chain w' lo k e base
  | 0, _, _, h => h
  | k + 1, e, base, ⟨b, u, x, he, hl, hc, h2⟩ => ⟨b, u, x, he, hl, h.cell (by show b ≠ t.block; omega) hc, Chain.touch h hlo h2⟩
set_option maxHeartbeats 400000 in
theorem wrapped_any (u : TypeId) (x : Value) (n : Nat) (hn : n ≤ 1000) (w : World) :
    Calls Tryd.prog 17 #[.iface u x, .int .i64 n] w fun e w' => ∃ (u' : TypeId) (x' : Value), e = .returned (.iface u' x') ∧ Chain w' w.heap.size n (.iface u' x') (.iface u x) ∧ Below w.heap.size w w' := by
  go_enter Tryd.func17, Tryd.ntmps17
  go_wp2
  go_loopw [0, 5] (fun v i wr => ∃ (k : Nat) (u' : TypeId) (x' : Value), k ≤ n ∧ i = .int .i64 k ∧ v = .iface u' x' ∧ Hid (Chain wr w.heap.size k (.iface u' x') (.iface u x)) ∧ Hid (Below w.heap.size w wr)) (fun _ i _ => n - (RowKit.intOf i).toNat)
  case atStart => exact ⟨0, u, x, Nat.zero_le _, rfl, rfl, Lib.hid rfl, Lib.hid (Below.refl _ _)⟩
  case round =>
    obtain ⟨k, u', x', hk, rfl, rfl, HC, HB⟩ := hrel
    by_cases hlt : k < n
    · go_wp2
      go_roundw
      case rel => exact ⟨k + 1, _, _, by omega, by go_num, rfl, Lib.hid ⟨wr.heap.size, u', x', rfl, HB.out.size, by simp, HC.out.on ((Below.refl _ _).alloc (Nat.le_refl _) _)⟩, Lib.hid (HB.out.alloc HB.out.size _)⟩
      case measure => simp [RowKit.intOf] <;> omega
    · obtain rfl : k = n := by omega
      go_wp2
      go_ret
      exact ⟨_, _, rfl, HC.out, HB.out⟩
theorem unwrap_any (b : Nat) (v : Value) (w : World) (hc : w.cell? ⟨b, 0, none⟩ = some v) :
    Calls Tryd.prog 55 #[.pointer (some ⟨b, 0, none⟩)] w fun e w' => e = .returned v ∧ w' = w := by
  go_enter Tryd.func55, Tryd.ntmps55
  go_wp2
  go_ret
  exact ⟨rfl, rfl⟩
end Go.Proofs.YtmhekahfgmmeaaaDoor
