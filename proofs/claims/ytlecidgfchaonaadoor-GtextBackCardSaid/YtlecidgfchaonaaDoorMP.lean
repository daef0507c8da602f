import Derived.Test.YtlecidgfchaonaaDoorMO
import Derived.Deep.RegionHeld3
import Derived.Test.YtlecidgfchaonaaDoorHeld
import Derived.Laws.EntriesVeiled
set_option linter.unusedVariables false
set_option linter.unusedSimpArgs false
namespace Go.Proofs.YtlecidgfchaonaaDoor
open Go.RowKit
attribute [local go_sem ↓] Go.wp_at_zero Go.wp_at_succ
/-- A reader: its words, and which comes next. -/
def RdAt (w : World) (R : Nat) (v : Value) (k : Nat) : Prop := w.cell? ⟨R, 0, none⟩ = some v ∧ w.cell? ⟨R, 1, none⟩ = some (.int .i64 (k : Int)) ∧ w.frozen? ⟨R, 1, none⟩ = false
theorem RdAt.on {w w1 : World} {R k : Nat} {v : Value} (h : RdAt w R v k) (hb : Below w.heap.size w w1) : RdAt w1 R v k := ⟨cell_on hb h.1, cell_on hb h.2.1, frozen_on hb h.2.1 h.2.2⟩
theorem RdAt.far {w w1 : World} {R k : Nat} {v : Value} {row : Option Nat} (h : RdAt w R v k) (hg : w.grownBy w1 row) (hD : some R ≠ row) : RdAt w1 R v k := ⟨far_cell hg hD h.1, far_cell hg hD h.2.1, far_frozen hg hD h.2.1 h.2.2⟩
theorem RdAt.step {w : World} {R k : Nat} {v : Value} (h : RdAt w R v k) : RdAt (w.setCell ⟨R, 1, none⟩ (.int .i64 ((k : Int) + 1))) R v (k + 1) :=
  ⟨(World.cell?_setCell_other _ _ _ _ (by simp)).trans h.1, (World.cell?_setCell_same _ _ _ h.2.1).trans (by rw [Int.natCast_add]; rfl), by simp [h.2.2]⟩
theorem g_drew2 {w w1 : World} {row : Option Nat} (h : w.grownBy w1 row) : w.grownBy w1.drew.drew row := g_then h (g_below (Below.refl _ w1).drew.drew none) (fun j h => by cases h)
/-- Words at hand, none of them in the block R. -/
def WdAt (w : World) (R : Nat) (a : Option Addr) (l : List ByteArray) : Prop := 0 < l.length → ∃ b off, a = some ⟨b, off, none⟩ ∧ b ≠ R ∧ ∀ (j : Nat) x, l[j]? = some x → w.cell? ⟨b, off + j, none⟩ = some (.string x)
theorem WdAt.far {w w1 : World} {R : Nat} {a : Option Addr} {l : List ByteArray} (h : WdAt w R a l) (hg : w.grownBy w1 (some R)) : WdAt w1 R a l := fun h0 => by
  obtain ⟨b, off, e, hb, hc⟩ := h h0
  exact ⟨b, off, e, hb, fun j x hx => far_cell hg (fun e => hb (Option.some.inj e)) (hc j x hx)⟩
theorem WdAt.on {w w1 : World} {R : Nat} {a : Option Addr} {l : List ByteArray} (h : WdAt w R a l) (hb : Below w.heap.size w w1) : WdAt w1 R a l := fun h0 => by
  obtain ⟨b, off, e, hb', hc⟩ := h h0
  exact ⟨b, off, e, hb', fun j x hx => cell_on hb (hc j x hx)⟩
/-- The fault of the k-th word by a limit; its number. -/
def nextF (l : List ByteArray) (k : Nat) (p : Nat → Int) : Int := match l[k]? with | none => 3 | some x => if parseF x.data.toList ≠ 0 then 3 else p (parseV x.data.toList)
def nextV (l : List ByteArray) (k : Nat) : Nat := match l[k]? with | none => 0 | some x => parseV x.data.toList
def nextN (l : List ByteArray) (k : Nat) (p : Nat → Int) : Nat := if nextF l k p = 0 then nextV l k else 0
def nextK (l : List ByteArray) (k : Nat) (p : Nat → Int) : Nat := if nextF l k p = 0 then k + 1 else k
theorem next_few {l : List ByteArray} {k : Nat} (p : Nat → Int) (h : l.length ≤ k) : nextF l k p = 3 := by unfold nextF; rw [List.getElem?_eq_none h]
theorem next_at {l : List ByteArray} {k : Nat} {x : ByteArray} (p : Nat → Int) (h : l[k]? = some x) : nextF l k p = if parseF x.data.toList ≠ 0 then 3 else p (parseV x.data.toList) := by unfold nextF; rw [h]
theorem next_ok {l : List ByteArray} {k : Nat} {x : ByteArray} (p : Nat → Int) (h : l[k]? = some x) (hf : parseF x.data.toList = 0) : nextF l k p = p (parseV x.data.toList) := by rw [next_at p h, if_neg (fun e => e hf)]
theorem next_bad {l : List ByteArray} {k : Nat} {x : ByteArray} (p : Nat → Int) (h : l[k]? = some x) (hf : parseF x.data.toList ≠ 0) : nextF l k p = 3 := by rw [next_at p h, if_pos hf]
theorem nextV_at {l : List ByteArray} {k : Nat} {x : ByteArray} (h : l[k]? = some x) : nextV l k = parseV x.data.toList := by unfold nextV; rw [h]
set_option maxHeartbeats 2000000 in
theorem next_lim (l : List ByteArray) (hl : l.length ≤ 1000000) (hx : ∀ x ∈ l, x.size ≤ maxLen) (R k c : Nat) (hk : k ≤ l.length) (a : Option Addr) (p q r lo hi : Nat) (f : Int) (w : World) (hr : RdAt w R (.slice a l.length c) k) (hw : WdAt w R a l) (hL : LimAt w p q r lo hi f) :
    Calls Tryd.prog 31 #[.pointer (some ⟨R, 0, none⟩), limV p q r] w fun e w' => e = .returned (.tuple #[.int .u64 (nextN l k (limF lo hi f) : Nat), .int .i64 (nextF l k (limF lo hi f))]) ∧ RdAt w' R (.slice a l.length c) (nextK l k (limF lo hi f)) ∧ w.grownBy w' (some R) := by
  have HB := Lib.hid (Below.refl w.heap.size w)
  have HRd := Lib.hid hr
  have HLim := Lib.hid (fun n W (hB : Below w.heap.size w W) => lim1_any p q r lo hi n f W (hL.on hB))
  obtain ⟨c0, c1, f1⟩ := hr
  have hlt := World.block_lt_of_cell? w _ c0
  simp only at hlt
  unfold nextN nextK
  obtain ⟨m, hm⟩ : ∃ m, l.length = m := ⟨_, rfl⟩
  rw [hm] at hl c0 HRd hk ⊢
  unfold limV
  clear hL
  by_cases h1 : k = m
  · rw [next_few _ (by omega), if_neg (by decide), if_neg (by decide)]
    subst h1
    clear hx hk hw HLim
    go_enter Tryd.func31, Tryd.ntmps31
    go_wp2
    go_region
    all_goals go_wp2
    all_goals go_ret2
    all_goals exact ⟨rfl, HRd.out.on HB.out.drew, g_below HB.out.drew _⟩
  · have q1 : ((k : Int) == (m : Int)) = false := by rw [beq_eq_false_iff_ne]; omega
    have hkm : (k : Int) < (m : Int) := by omega
    have hk0 : (0 : Int) ≤ (k : Int) := Int.natCast_nonneg _
    have hm1 : (m : Int) ≤ 1000000 := by omega
    have hx0 : l[k]? = some (l[k]'(by omega)) := List.getElem?_eq_getElem (by omega)
    have hxs := hx _ (List.getElem_mem (show k < l.length by omega))
    obtain ⟨x, hxe⟩ : ∃ x, l[k]'(by omega) = x := ⟨_, rfl⟩
    rw [hxe] at hx0 hxs
    rw [nextV_at hx0]
    obtain ⟨b, off, rfl, hbR, hc⟩ := hw (by omega)
    have e0 := hc k _ hx0
    have HPar := Lib.hid (fun W => parse_any x hxs W)
    by_cases h2 : parseF x.data.toList = 0
    · rw [next_ok _ hx0 h2]
      rw [h2] at HPar
      obtain ⟨V, hV⟩ : ∃ V, parseV x.data.toList = V := ⟨_, rfl⟩
      rw [hV] at HPar ⊢
      have HLv := Lib.hid (fun W => HLim.out V W)
      obtain ⟨L, hLe⟩ : ∃ L, (limF lo hi f) V = L := ⟨_, rfl⟩
      rw [hLe] at HLv ⊢
      clear hc hx hxe hx0 hV h1 hk h2 hLe HLim hw
      by_cases h3 : L = 0
      · subst h3
        rw [if_pos rfl, if_pos rfl]
        go_enter Tryd.func31, Tryd.ntmps31
        go_wp2
        go_region
        all_goals go_wp2
        all_goals (go_region_held3 (fun w' => w'.cell? ⟨R, 0, none⟩ = some (.slice (some ⟨b, off, none⟩) m c) ∧ w'.cell? ⟨R, 1, none⟩ = some (.int .i64 (k : Int)) ∧ w'.cell? ⟨b, off + k, none⟩ = some (.string x)) (first | exact ⟨c0, c1, e0⟩) (first | (go_at_call 48; refine (HPar.out _).mono ?_; rintro e w2 ⟨rfl, hw2⟩; obtain rfl := hw2.symm; clear HPar)))
        all_goals (go_wp2_with (go_at_call 59; refine (HLv.out _ (by first | exact HB.out.drew.drew | exact HBq.out)).mono ?_; rintro e w3 ⟨rfl, hw3⟩; obtain rfl := hw3.symm; clear HLv))
        all_goals go_ret2
        all_goals exact ⟨rfl, HRd.out.step.on (Below.refl _ _).drew.drew, g_drew2 (g_set (World.grownBy.refl w (some R)) _ (.inr rfl))⟩
      · have q3 : (L != 0) = true := by rw [bne_iff_ne]; exact h3
        rw [if_neg h3, if_neg h3]
        clear h3
        go_enter Tryd.func31, Tryd.ntmps31
        go_wp2
        go_region
        all_goals go_wp2
        all_goals (go_region_held3 (fun w' => w'.cell? ⟨R, 0, none⟩ = some (.slice (some ⟨b, off, none⟩) m c) ∧ w'.cell? ⟨R, 1, none⟩ = some (.int .i64 (k : Int)) ∧ w'.cell? ⟨b, off + k, none⟩ = some (.string x)) (first | exact ⟨c0, c1, e0⟩) (first | (go_at_call 48; refine (HPar.out _).mono ?_; rintro e w2 ⟨rfl, hw2⟩; obtain rfl := hw2.symm; clear HPar)))
        all_goals (go_wp2_with (go_at_call 59; refine (HLv.out _ (by first | exact HB.out.drew.drew | exact HBq.out)).mono ?_; rintro e w3 ⟨rfl, hw3⟩; obtain rfl := hw3.symm; clear HLv))
        all_goals go_ret2
        all_goals exact ⟨rfl, HRd.out.on (Below.refl _ _).drew.drew, g_drew2 (World.grownBy.refl w _)⟩
    · have q2 : (parseF x.data.toList != 0) = true := by rw [bne_iff_ne]; exact h2
      rw [next_bad _ hx0 h2, if_neg (by decide), if_neg (by decide)]
      obtain ⟨V, hV⟩ : ∃ V, parseV x.data.toList = V := ⟨_, rfl⟩
      obtain ⟨FF, hFF⟩ : ∃ FF, parseF x.data.toList = FF := ⟨_, rfl⟩
      rw [hV, hFF] at HPar
      rw [hFF] at q2
      clear hc hx hxe hx0 hV hFF h1 hk h2 HLim hw
      go_enter Tryd.func31, Tryd.ntmps31
      go_wp2
      go_region
      all_goals go_wp2
      all_goals (go_region_held3 (fun w' => w'.cell? ⟨R, 0, none⟩ = some (.slice (some ⟨b, off, none⟩) m c) ∧ w'.cell? ⟨R, 1, none⟩ = some (.int .i64 (k : Int)) ∧ w'.cell? ⟨b, off + k, none⟩ = some (.string x)) (first | exact ⟨c0, c1, e0⟩) (first | (go_at_call 48; refine (HPar.out _).mono ?_; rintro e w2 ⟨rfl, hw2⟩; obtain rfl := hw2.symm; clear HPar)))
      all_goals go_wp2
      all_goals go_ret2
      all_goals exact ⟨rfl, HRd.out.on (Below.refl _ _).drew.drew, g_drew2 (World.grownBy.refl w _)⟩
set_option maxHeartbeats 2000000 in
theorem next_oth (l : List ByteArray) (hl : l.length ≤ 1000000) (hx : ∀ x ∈ l, x.size ≤ maxLen) (R k c : Nat) (hk : k ≤ l.length) (a : Option Addr) (F G p q r fr lo hi : Nat) (f : Int) (w : World) (hr : RdAt w R (.slice a l.length c) k) (hw : WdAt w R a l) (hL : OthAt w F G p q r fr lo hi f) :
    Calls Tryd.prog 31 #[.pointer (some ⟨R, 0, none⟩), othV F G] w fun e w' => e = .returned (.tuple #[.int .u64 (nextN l k (othF fr lo hi f) : Nat), .int .i64 (nextF l k (othF fr lo hi f))]) ∧ RdAt w' R (.slice a l.length c) (nextK l k (othF fr lo hi f)) ∧ w.grownBy w' (some R) := by
  have HB := Lib.hid (Below.refl w.heap.size w)
  have HRd := Lib.hid hr
  have HLim := Lib.hid (fun n W (hB : Below w.heap.size w W) => oth_any F G p q r fr lo hi n f W (hL.on hB))
  obtain ⟨c0, c1, f1⟩ := hr
  have hlt := World.block_lt_of_cell? w _ c0
  simp only at hlt
  unfold nextN nextK
  obtain ⟨m, hm⟩ : ∃ m, l.length = m := ⟨_, rfl⟩
  rw [hm] at hl c0 HRd hk ⊢
  unfold othV
  clear hL
  by_cases h1 : k = m
  · rw [next_few _ (by omega), if_neg (by decide), if_neg (by decide)]
    subst h1
    clear hx hk hw HLim
    go_enter Tryd.func31, Tryd.ntmps31
    go_wp2
    go_region
    all_goals go_wp2
    all_goals go_ret2
    all_goals exact ⟨rfl, HRd.out.on HB.out.drew, g_below HB.out.drew _⟩
  · have q1 : ((k : Int) == (m : Int)) = false := by rw [beq_eq_false_iff_ne]; omega
    have hkm : (k : Int) < (m : Int) := by omega
    have hk0 : (0 : Int) ≤ (k : Int) := Int.natCast_nonneg _
    have hm1 : (m : Int) ≤ 1000000 := by omega
    have hx0 : l[k]? = some (l[k]'(by omega)) := List.getElem?_eq_getElem (by omega)
    have hxs := hx _ (List.getElem_mem (show k < l.length by omega))
    obtain ⟨x, hxe⟩ : ∃ x, l[k]'(by omega) = x := ⟨_, rfl⟩
    rw [hxe] at hx0 hxs
    rw [nextV_at hx0]
    obtain ⟨b, off, rfl, hbR, hc⟩ := hw (by omega)
    have e0 := hc k _ hx0
    have HPar := Lib.hid (fun W => parse_any x hxs W)
    by_cases h2 : parseF x.data.toList = 0
    · rw [next_ok _ hx0 h2]
      rw [h2] at HPar
      obtain ⟨V, hV⟩ : ∃ V, parseV x.data.toList = V := ⟨_, rfl⟩
      rw [hV] at HPar ⊢
      have HLv := Lib.hid (fun W => HLim.out V W)
      obtain ⟨L, hLe⟩ : ∃ L, (othF fr lo hi f) V = L := ⟨_, rfl⟩
      rw [hLe] at HLv ⊢
      clear hc hx hxe hx0 hV h1 hk h2 hLe HLim hw
      by_cases h3 : L = 0
      · subst h3
        rw [if_pos rfl, if_pos rfl]
        go_enter Tryd.func31, Tryd.ntmps31
        go_wp2
        go_region
        all_goals go_wp2
        all_goals (go_region_held3 (fun w' => w'.cell? ⟨R, 0, none⟩ = some (.slice (some ⟨b, off, none⟩) m c) ∧ w'.cell? ⟨R, 1, none⟩ = some (.int .i64 (k : Int)) ∧ w'.cell? ⟨b, off + k, none⟩ = some (.string x)) (first | exact ⟨c0, c1, e0⟩) (first | (go_at_call 48; refine (HPar.out _).mono ?_; rintro e w2 ⟨rfl, hw2⟩; obtain rfl := hw2.symm; clear HPar)))
        all_goals (go_wp2_with (go_at_call 49; refine (HLv.out _ (by first | exact HB.out.drew.drew | exact HBq.out)).mono ?_; rintro e w3 ⟨rfl, hw3⟩; obtain rfl := hw3.symm; clear HLv))
        all_goals go_ret2
        all_goals exact ⟨rfl, HRd.out.step.on (Below.refl _ _).drew.drew, g_drew2 (g_set (World.grownBy.refl w (some R)) _ (.inr rfl))⟩
      · have q3 : (L != 0) = true := by rw [bne_iff_ne]; exact h3
        rw [if_neg h3, if_neg h3]
        clear h3
        go_enter Tryd.func31, Tryd.ntmps31
        go_wp2
        go_region
        all_goals go_wp2
        all_goals (go_region_held3 (fun w' => w'.cell? ⟨R, 0, none⟩ = some (.slice (some ⟨b, off, none⟩) m c) ∧ w'.cell? ⟨R, 1, none⟩ = some (.int .i64 (k : Int)) ∧ w'.cell? ⟨b, off + k, none⟩ = some (.string x)) (first | exact ⟨c0, c1, e0⟩) (first | (go_at_call 48; refine (HPar.out _).mono ?_; rintro e w2 ⟨rfl, hw2⟩; obtain rfl := hw2.symm; clear HPar)))
        all_goals (go_wp2_with (go_at_call 49; refine (HLv.out _ (by first | exact HB.out.drew.drew | exact HBq.out)).mono ?_; rintro e w3 ⟨rfl, hw3⟩; obtain rfl := hw3.symm; clear HLv))
        all_goals go_ret2
        all_goals exact ⟨rfl, HRd.out.on (Below.refl _ _).drew.drew, g_drew2 (World.grownBy.refl w _)⟩
    · have q2 : (parseF x.data.toList != 0) = true := by rw [bne_iff_ne]; exact h2
      rw [next_bad _ hx0 h2, if_neg (by decide), if_neg (by decide)]
      obtain ⟨V, hV⟩ : ∃ V, parseV x.data.toList = V := ⟨_, rfl⟩
      obtain ⟨FF, hFF⟩ : ∃ FF, parseF x.data.toList = FF := ⟨_, rfl⟩
      rw [hV, hFF] at HPar
      rw [hFF] at q2
      clear hc hx hxe hx0 hV hFF h1 hk h2 HLim hw
      go_enter Tryd.func31, Tryd.ntmps31
      go_wp2
      go_region
      all_goals go_wp2
      all_goals (go_region_held3 (fun w' => w'.cell? ⟨R, 0, none⟩ = some (.slice (some ⟨b, off, none⟩) m c) ∧ w'.cell? ⟨R, 1, none⟩ = some (.int .i64 (k : Int)) ∧ w'.cell? ⟨b, off + k, none⟩ = some (.string x)) (first | exact ⟨c0, c1, e0⟩) (first | (go_at_call 48; refine (HPar.out _).mono ?_; rintro e w2 ⟨rfl, hw2⟩; obtain rfl := hw2.symm; clear HPar)))
      all_goals go_wp2
      all_goals go_ret2
      all_goals exact ⟨rfl, HRd.out.on (Below.refl _ _).drew.drew, g_drew2 (World.grownBy.refl w _)⟩
end Go.Proofs.YtlecidgfchaonaaDoor

namespace Go.Proofs.YtlecidgfchaonaaDoor
open Go.RowKit
attribute [local go_sem ↓] Go.wp_at_zero Go.wp_at_succ
/-- The reader's method, as a value. -/
def nextVal (R : Nat) : Value := .func (.func 31) #[.pointer (some ⟨R, 0, none⟩)] #[]
/-- next, where the word will do; where it won't. -/
theorem nextl_good (l : List ByteArray) (hl : l.length ≤ 1000000) (hx : ∀ x ∈ l, x.size ≤ maxLen) (R k c : Nat) (hk : k ≤ l.length) (a : Option Addr) (p q r lo hi : Nat) (f : Int) (hF : nextF l k (limF lo hi f) = 0) (w : World) (hr : RdAt w R (.slice a l.length c) k) (hw : WdAt w R a l) (hL : LimAt w p q r lo hi f) :
    Calls Tryd.prog 31 #[.pointer (some ⟨R, 0, none⟩), limV p q r] w fun e w' => e = .returned (.tuple #[.int .u64 (nextV l k : Nat), .int .i64 0]) ∧ RdAt w' R (.slice a l.length c) (k + 1) ∧ w.grownBy w' (some R) := by
  have h := next_lim l hl hx R k c hk a p q r lo hi f w hr hw hL
  unfold nextN nextK at h
  rw [hF, if_pos rfl, if_pos rfl] at h
  exact h
theorem nextl_bad (l : List ByteArray) (hl : l.length ≤ 1000000) (hx : ∀ x ∈ l, x.size ≤ maxLen) (R k c : Nat) (hk : k ≤ l.length) (a : Option Addr) (p q r lo hi : Nat) (f F : Int) (hF : nextF l k (limF lo hi f) = F) (hF0 : F ≠ 0) (w : World) (hr : RdAt w R (.slice a l.length c) k) (hw : WdAt w R a l) (hL : LimAt w p q r lo hi f) :
    Calls Tryd.prog 31 #[.pointer (some ⟨R, 0, none⟩), limV p q r] w fun e w' => e = .returned (.tuple #[.int .u64 0, .int .i64 F]) ∧ RdAt w' R (.slice a l.length c) k ∧ w.grownBy w' (some R) := by
  have h := next_lim l hl hx R k c hk a p q r lo hi f w hr hw hL
  unfold nextN nextK at h
  rw [hF, if_neg hF0, if_neg hF0] at h
  exact h
theorem nexto_good (l : List ByteArray) (hl : l.length ≤ 1000000) (hx : ∀ x ∈ l, x.size ≤ maxLen) (R k c : Nat) (hk : k ≤ l.length) (a : Option Addr) (F0 G p q r fr lo hi : Nat) (f : Int) (hF : nextF l k (othF fr lo hi f) = 0) (w : World) (hr : RdAt w R (.slice a l.length c) k) (hw : WdAt w R a l) (hL : OthAt w F0 G p q r fr lo hi f) :
    Calls Tryd.prog 31 #[.pointer (some ⟨R, 0, none⟩), othV F0 G] w fun e w' => e = .returned (.tuple #[.int .u64 (nextV l k : Nat), .int .i64 0]) ∧ RdAt w' R (.slice a l.length c) (k + 1) ∧ w.grownBy w' (some R) := by
  have h := next_oth l hl hx R k c hk a F0 G p q r fr lo hi f w hr hw hL
  unfold nextN nextK at h
  rw [hF, if_pos rfl, if_pos rfl] at h
  exact h
theorem nexto_bad (l : List ByteArray) (hl : l.length ≤ 1000000) (hx : ∀ x ∈ l, x.size ≤ maxLen) (R k c : Nat) (hk : k ≤ l.length) (a : Option Addr) (F0 G p q r fr lo hi : Nat) (f F : Int) (hF : nextF l k (othF fr lo hi f) = F) (hFn : F ≠ 0) (w : World) (hr : RdAt w R (.slice a l.length c) k) (hw : WdAt w R a l) (hL : OthAt w F0 G p q r fr lo hi f) :
    Calls Tryd.prog 31 #[.pointer (some ⟨R, 0, none⟩), othV F0 G] w fun e w' => e = .returned (.tuple #[.int .u64 0, .int .i64 F]) ∧ RdAt w' R (.slice a l.length c) k ∧ w.grownBy w' (some R) := by
  have h := next_oth l hl hx R k c hk a F0 G p q r fr lo hi f w hr hw hL
  unfold nextN nextK at h
  rw [hF, if_neg hFn, if_neg hFn] at h
  exact h
/-- Below any block up to R. -/
theorem g_low {w w' : World} {R B : Nat} (hg : w.grownBy w' (some R)) (hB : B ≤ w.heap.size) (hR : B ≤ R) : Below B w w' := (Below.refl B w).grown hg hB (fun j hj => by cases hj; exact hR)
theorem g_in {w w1 w2 : World} {R : Nat} (h : w.grownBy w1 (some R)) (hb : Below w1.heap.size w1 w2) : w.grownBy w2 (some R) := g_then h (g_below hb none) (fun j h => by cases h)
theorem g_on {w w1 w2 : World} {R : Nat} (h : w.grownBy w1 (some R)) (h2 : w1.grownBy w2 (some R)) : w.grownBy w2 (some R) := g_then h h2 (fun j h => .inl h)
theorem next_lt {l : List ByteArray} {k : Nat} {p : Nat → Int} (h : nextF l k p = 0) : k < l.length := by
  rcases Nat.lt_or_ge k l.length with h1 | h1
  · exact h1
  · rw [next_few p h1] at h; cases h
theorem next_lim_le {l : List ByteArray} {k lo hi : Nat} {f : Int} (hf : f ≠ 0) (h : nextF l k (limF lo hi f) = 0) : lo ≤ nextV l k ∧ nextV l k ≤ hi := by
  have hl := next_lt h
  have hx : l[k]? = some l[k] := List.getElem?_eq_getElem hl
  rw [next_at _ hx] at h
  rw [nextV_at hx]
  split at h
  · cases h
  · unfold limF at h
    split at h
    · exact absurd h hf
    · omega
theorem DrAt.put {w : World} {D N M : Nat} {v : Value} (h : DrAt w D N v M) (N' M' : Nat) : DrAt ((w.setCell ⟨D, 0, none⟩ (.int .i64 (N' : Int))).setCell ⟨D, 2, none⟩ (.int .i64 (M' : Int))) D N' v M' := by
  obtain ⟨c0, c1, c2, f0, f1, f2⟩ := h
  have k0 : (w.setCell ⟨D, 0, none⟩ (.int .i64 (N' : Int))).cell? ⟨D, 0, none⟩ = some (.int .i64 (N' : Int)) := World.cell?_setCell_same _ _ _ c0
  have k1 : (w.setCell ⟨D, 0, none⟩ (.int .i64 (N' : Int))).cell? ⟨D, 1, none⟩ = some v := (World.cell?_setCell_other _ _ _ _ (by simp)).trans c1
  have k2 : (w.setCell ⟨D, 0, none⟩ (.int .i64 (N' : Int))).cell? ⟨D, 2, none⟩ = some (.int .i64 (M : Int)) := (World.cell?_setCell_other _ _ _ _ (by simp)).trans c2
  exact ⟨(World.cell?_setCell_other _ _ _ _ (by simp)).trans k0, (World.cell?_setCell_other _ _ _ _ (by simp)).trans k1, World.cell?_setCell_same _ _ _ k2, by simp [f0], by simp [f1], by simp [f2]⟩
/-- Every block ahead of base but the draft's and the reader's is as it was. -/
def Kept (R D base : Nat) (w w' : World) : Prop := ∀ q, q < base → q ≠ D → q ≠ R → w'.heap[q]? = w.heap[q]?
theorem kept_g {w w' : World} {R D : Nat} (h : w.grownBy w' (some R)) : Kept R D w.heap.size w w' := fun q h1 _ h3 => h.block q h1 (fun e => h3 (Option.some.inj e))
theorem Kept.less {R D base base' : Nat} {w w' : World} (h : Kept R D base w w') (hb : base' ≤ base) : Kept R D base' w w' := fun q h1 h2 h3 => h q (Nat.lt_of_lt_of_le h1 hb) h2 h3
theorem Kept.set {R D base i : Nat} {w w' : World} (h : Kept R D base w w') (u : Value) : Kept R D base w (w'.setCell ⟨D, i, none⟩ u) := fun q h1 h2 h3 => (heap_setCell_other w' ⟨D, i, none⟩ q u h2).trans (h q h1 h2 h3)
theorem Kept.then {R D base : Nat} {w w1 w2 : World} {row : Option Nat} (h : Kept R D base w w1) (hb : base ≤ w1.heap.size) (hg : w1.grownBy w2 row) (hr : ∀ j, row = some j → base ≤ j) : Kept R D base w w2 := fun q h1 h2 h3 => (hg.block q (Nat.lt_of_lt_of_le h1 hb) (fun e => by have := hr q e.symm; omega)).trans (h q h1 h2 h3)
theorem RdAt.set {w : World} {R k D i : Nat} {v u : Value} (h : RdAt w R v k) (hDR : D ≠ R) : RdAt (w.setCell ⟨D, i, none⟩ u) R v k := by
  have e : ∀ j, (⟨D, i, none⟩ : Addr) ≠ ⟨R, j, none⟩ := fun j x => hDR (by injection x)
  exact ⟨(World.cell?_setCell_other _ _ _ _ (by first | exact e 0 | exact (e 0).symm)).trans h.1, (World.cell?_setCell_other _ _ _ _ (by first | exact e 1 | exact (e 1).symm)).trans h.2.1, by simp [h.2.2]⟩
set_option maxHeartbeats 1000000 in
theorem head_bad0 (l : List ByteArray) (hl : l.length ≤ 1000000) (hx : ∀ x ∈ l, x.size ≤ maxLen) (R c D M0 : Nat) (a : Option Addr) (v : Value) (F0 : Int) (h0 : nextF l 0 (limF 1 4096 2) = F0) (hF0 : F0 ≠ 0) (w : World) (hr : RdAt w R (.slice a l.length c) 0) (hw : WdAt w R a l) (hd : DrAt w D 0 v M0) (hDR : D ≠ R) :
    Calls Tryd.prog 30 #[.pointer (some ⟨D, 0, none⟩), nextVal R] w fun e w' => e = .returned (.int .i64 F0) ∧ RdAt w' R (.slice a l.length c) 0 ∧ DrAt w' D 0 v M0 ∧ ∀ B, B ≤ w.heap.size → B ≤ R → B ≤ D → Below B w w' := by
  have HN0 := Lib.hid (fun p q r W => nextl_bad l hl hx R 0 c (Nat.zero_le _) a p q r 1 4096 2 F0 h0 hF0 W)
  have HW0 := Lib.hid (fun W => within_any 1 4096 2 W)
  have HR0 := Lib.hid hr
  have HW := Lib.hid hw
  have HD := Lib.hid hd
  have hne : some D ≠ some R := fun e => hDR (Option.some.inj e)
  have hb0 : (F0 != 0) = true := by rw [bne_iff_ne]; exact hF0
  clear hF0
  obtain ⟨m, hm⟩ : ∃ m, l.length = m := ⟨_, rfl⟩
  rw [hm] at HN0 HR0 ⊢
  unfold nextVal
  clear hr hw hd hx
  go_enter Tryd.func30, Tryd.ntmps30
  go_wp2
  refine wp_scope_jumps 0 (fun a' w' => ∃ (u0 u1 u2 u3 u4 u5 u6 u8 u9 u10 u11 u12 u13 u14 u15 u16 u17 u18 u19 u20 u21 u22 u23 u24 u25 u26 u27 u28 u29 u30 u31 u32 u33 u34 u35 : Value), a' = { tmps := #[u0, u1, u2, u3, u4, u5, u6, .int .i64 F0, u8, u9, u10, u11, u12, u13, u14, u15, u16, u17, u18, u19, u20, u21, u22, u23, u24, u25, u26, u27, u28, u29, u30, u31, u32, u33, u34, u35], defers := [] } ∧ Hid (RdAt w' R (.slice a m c) 0 ∧ DrAt w' D 0 v M0 ∧ ∀ B, B ≤ w.heap.size → B ≤ R → B ≤ D → Below B w w')) (fun _ _ => 0) rfl ?_ ?_
  · go_wp2_with (first
      | (go_at_call 47; refine (HW0.out _).mono ?_; rintro e w1 ⟨p1, q1, r1, rfl, hp1, hq1, hr1, hL, hB⟩; have HL1 := Lib.hid hL; have HB1 := Lib.hid hB; clear hL hB HW0; unfold limV)
      | (go_at_call 31; refine (HN0.out p1 q1 r1 _ (HR0.out.on HB1.out) (HW.out.on HB1.out) HL1.out).mono ?_; rintro e w2 ⟨rfl, hR, hG⟩; have HR2 := Lib.hid hR; have HG2 := Lib.hid (g_then (g_below HB1.out (some R)) hG (fun j h => .inl h)); clear hR hG HN0))
    go_step3
    exact ⟨rfl, _, _, _, _, _, _, _, _, _, _, _, _, _, _, _, _, _, _, _, _, _, _, _, _, _, _, _, _, _, _, _, _, _, _, _, rfl, Lib.hid ⟨HR2.out, HD.out.far HG2.out hne, fun B h1 h2 _ => g_low HG2.out h1 h2⟩⟩
  · rintro a' w' ⟨u0, u1, u2, u3, u4, u5, u6, u8, u9, u10, u11, u12, u13, u14, u15, u16, u17, u18, u19, u20, u21, u22, u23, u24, u25, u26, u27, u28, u29, u30, u31, u32, u33, u34, u35, rfl, hP⟩
    go_wp2
    simp only [Exit.jump]
    go_ret
    exact ⟨rfl, hP.out⟩
set_option maxHeartbeats 1000000 in
theorem head_bad1 (l : List ByteArray) (hl : l.length ≤ 1000000) (hx : ∀ x ∈ l, x.size ≤ maxLen) (R c D M0 : Nat) (a : Option Addr) (v : Value) (F0 : Int) (h0 : nextF l 0 (limF 1 4096 2) = 0) (h1 : nextF l 1 (limF 0 16384 5) = F0) (hF0 : F0 ≠ 0) (w : World) (hr : RdAt w R (.slice a l.length c) 0) (hw : WdAt w R a l) (hd : DrAt w D 0 v M0) (hDR : D ≠ R) :
    Calls Tryd.prog 30 #[.pointer (some ⟨D, 0, none⟩), nextVal R] w fun e w' => e = .returned (.int .i64 F0) ∧ RdAt w' R (.slice a l.length c) 1 ∧ DrAt w' D 0 v M0 ∧ ∀ B, B ≤ w.heap.size → B ≤ R → B ≤ D → Below B w w' := by
  have HN0 := Lib.hid (fun p q r W => nextl_good l hl hx R 0 c (Nat.zero_le _) a p q r 1 4096 2 h0 W)
  have HW0 := Lib.hid (fun W => within_any 1 4096 2 W)
  have HN1 := Lib.hid (fun p q r W => nextl_bad l hl hx R 1 c (next_lt h0) a p q r 0 16384 5 F0 h1 hF0 W)
  have HW1 := Lib.hid (fun W => within_any 0 16384 5 W)
  have HR0 := Lib.hid hr
  have HW := Lib.hid hw
  have HD := Lib.hid hd
  have hne : some D ≠ some R := fun e => hDR (Option.some.inj e)
  have hb0 : (F0 != 0) = true := by rw [bne_iff_ne]; exact hF0
  clear hF0
  obtain ⟨m, hm⟩ : ∃ m, l.length = m := ⟨_, rfl⟩
  rw [hm] at HN0 HN1 HR0 ⊢
  unfold nextVal
  clear hr hw hd hx
  go_enter Tryd.func30, Tryd.ntmps30
  go_wp2
  refine wp_scope_jumps 0 (fun a' w' => ∃ (u0 u1 u2 u3 u4 u5 u6 u8 u9 u10 u11 u12 u13 u14 u15 u16 u17 u18 u19 u20 u21 u22 u23 u24 u25 u26 u27 u28 u29 u30 u31 u32 u33 u34 u35 : Value), a' = { tmps := #[u0, u1, u2, u3, u4, u5, u6, .int .i64 F0, u8, u9, u10, u11, u12, u13, u14, u15, u16, u17, u18, u19, u20, u21, u22, u23, u24, u25, u26, u27, u28, u29, u30, u31, u32, u33, u34, u35], defers := [] } ∧ Hid (RdAt w' R (.slice a m c) 1 ∧ DrAt w' D 0 v M0 ∧ ∀ B, B ≤ w.heap.size → B ≤ R → B ≤ D → Below B w w')) (fun _ _ => 0) rfl ?_ ?_
  · go_wp2_with (first
      | (go_at_call 47; refine (HW0.out _).mono ?_; rintro e w1 ⟨p1, q1, r1, rfl, hp1, hq1, hr1, hL, hB⟩; have HL1 := Lib.hid hL; have HB1 := Lib.hid hB; clear hL hB HW0; unfold limV)
      | (go_at_call 31; refine (HN0.out p1 q1 r1 _ (HR0.out.on HB1.out) (HW.out.on HB1.out) HL1.out).mono ?_; rintro e w2 ⟨rfl, hR, hG⟩; have HR2 := Lib.hid hR; have HG2 := Lib.hid (g_then (g_below HB1.out (some R)) hG (fun j h => .inl h)); clear hR hG HN0)
      | (go_at_call 47; refine (HW1.out _).mono ?_; rintro e w3 ⟨p2, q2, r2, rfl, hp2, hq2, hr2, hL, hB⟩; have HL3 := Lib.hid hL; have HB3 := Lib.hid hB; clear hL hB HW1; unfold limV)
      | (go_at_call 31; refine (HN1.out p2 q2 r2 _ (HR2.out.on HB3.out) ((HW.out.far HG2.out).on HB3.out) HL3.out).mono ?_; rintro e w4 ⟨rfl, hR, hG⟩; have HR4 := Lib.hid hR; have HG4 := Lib.hid (g_on HG2.out (g_then (g_below HB3.out (some R)) hG (fun j h => .inl h))); obtain ⟨d0, d1, d2, e0, e1, e2⟩ := HD.out.far HG4.out hne; clear hR hG HN1))
    go_step3
    exact ⟨rfl, _, _, _, _, _, _, _, _, _, _, _, _, _, _, _, _, _, _, _, _, _, _, _, _, _, _, _, _, _, _, _, _, _, _, _, rfl, Lib.hid ⟨HR4.out, HD.out.far HG4.out hne, fun B h1 h2 _ => g_low HG4.out h1 h2⟩⟩
  · rintro a' w' ⟨u0, u1, u2, u3, u4, u5, u6, u8, u9, u10, u11, u12, u13, u14, u15, u16, u17, u18, u19, u20, u21, u22, u23, u24, u25, u26, u27, u28, u29, u30, u31, u32, u33, u34, u35, rfl, hP⟩
    go_wp2
    simp only [Exit.jump]
    go_ret
    exact ⟨rfl, hP.out⟩
set_option maxHeartbeats 1000000 in
theorem head_good (l : List ByteArray) (hl : l.length ≤ 1000000) (hx : ∀ x ∈ l, x.size ≤ maxLen) (R c D M0 : Nat) (a : Option Addr) (v : Value) (h0 : nextF l 0 (limF 1 4096 2) = 0) (h1 : nextF l 1 (limF 0 16384 5) = 0) (w : World) (hr : RdAt w R (.slice a l.length c) 0) (hw : WdAt w R a l) (hd : DrAt w D 0 v M0) (hDR : D ≠ R) :
    Calls Tryd.prog 30 #[.pointer (some ⟨D, 0, none⟩), nextVal R] w fun e w' => e = .returned (.int .i64 0) ∧ RdAt w' R (.slice a l.length c) 2 ∧ DrAt w' D (nextV l 0) v (nextV l 1) ∧ Kept R D w.heap.size w w' ∧ ∀ B, B ≤ w.heap.size → B ≤ R → B ≤ D → Below B w w' := by
  have HN0 := Lib.hid (fun p q r W => nextl_good l hl hx R 0 c (Nat.zero_le _) a p q r 1 4096 2 h0 W)
  have HW0 := Lib.hid (fun W => within_any 1 4096 2 W)
  have HN1 := Lib.hid (fun p q r W => nextl_good l hl hx R 1 c (next_lt h0) a p q r 0 16384 5 h1 W)
  have HW1 := Lib.hid (fun W => within_any 0 16384 5 W)
  have HR0 := Lib.hid hr
  have HW := Lib.hid hw
  have HD := Lib.hid hd
  have hne : some D ≠ some R := fun e => hDR (Option.some.inj e)
  have b0 := next_lim_le (by decide) h0
  have b1 := next_lim_le (by decide) h1
  obtain ⟨N1, hN1⟩ : ∃ N1, nextV l 0 = N1 := ⟨_, rfl⟩
  obtain ⟨M1, hM1⟩ : ∃ M1, nextV l 1 = M1 := ⟨_, rfl⟩
  rw [hN1] at b0 HN0 ⊢
  rw [hM1] at b1 HN1 ⊢
  have z0 : (N1 : Int) ≤ 4096 := by omega
  have z1 : (M1 : Int) ≤ 16384 := by omega
  clear hN1 hM1 b0 b1
  obtain ⟨m, hm⟩ : ∃ m, l.length = m := ⟨_, rfl⟩
  rw [hm] at HN0 HN1 HR0 ⊢
  unfold nextVal
  clear hr hw hd hx
  go_enter Tryd.func30, Tryd.ntmps30
  go_wp2
  refine wp_scope_jumps 0 (fun a' w' => ∃ (u0 u1 u2 u3 u4 u5 u6 u8 u9 u10 u11 u12 u13 u14 u15 u16 u17 u18 u19 u20 u21 u22 u23 u24 u25 u26 u27 u28 u29 u30 u31 u32 u33 u34 u35 : Value), a' = { tmps := #[u0, u1, u2, u3, u4, u5, u6, .int .i64 0, u8, u9, u10, u11, u12, u13, u14, u15, u16, u17, u18, u19, u20, u21, u22, u23, u24, u25, u26, u27, u28, u29, u30, u31, u32, u33, u34, u35], defers := [] } ∧ Hid (RdAt w' R (.slice a m c) 2 ∧ DrAt w' D N1 v M1 ∧ Kept R D w.heap.size w w' ∧ ∀ B, B ≤ w.heap.size → B ≤ R → B ≤ D → Below B w w')) (fun _ _ => 0) rfl ?_ ?_
  · go_wp2_with (first
      | (go_at_call 47; refine (HW0.out _).mono ?_; rintro e w1 ⟨p1, q1, r1, rfl, hp1, hq1, hr1, hL, hB⟩; have HL1 := Lib.hid hL; have HB1 := Lib.hid hB; clear hL hB HW0; unfold limV)
      | (go_at_call 31; refine (HN0.out p1 q1 r1 _ (HR0.out.on HB1.out) (HW.out.on HB1.out) HL1.out).mono ?_; rintro e w2 ⟨rfl, hR, hG⟩; have HR2 := Lib.hid hR; have HG2 := Lib.hid (g_then (g_below HB1.out (some R)) hG (fun j h => .inl h)); clear hR hG HN0)
      | (go_at_call 47; refine (HW1.out _).mono ?_; rintro e w3 ⟨p2, q2, r2, rfl, hp2, hq2, hr2, hL, hB⟩; have HL3 := Lib.hid hL; have HB3 := Lib.hid hB; clear hL hB HW1; unfold limV)
      | (go_at_call 31; refine (HN1.out p2 q2 r2 _ (HR2.out.on HB3.out) ((HW.out.far HG2.out).on HB3.out) HL3.out).mono ?_; rintro e w4 ⟨rfl, hR, hG⟩; have HR4 := Lib.hid hR; have HG4 := Lib.hid (g_on HG2.out (g_then (g_below HB3.out (some R)) hG (fun j h => .inl h))); obtain ⟨d0, d1, d2, e0, e1, e2⟩ := HD.out.far HG4.out hne; clear hR hG HN1))
    go_step3
    go_wp2
    simp only [Exit.jump]
    go_ret
    exact ⟨rfl, (HR4.out.set hDR).set hDR, (HD.out.far HG4.out hne).put _ _, ((kept_g HG4.out).set _).set _, fun B h1 h2 h3 => ((g_low HG4.out h1 h2).setCell h3 _).setCell h3 _⟩
  · rintro a' w' ⟨u0, u1, u2, u3, u4, u5, u6, u8, u9, u10, u11, u12, u13, u14, u15, u16, u17, u18, u19, u20, u21, u22, u23, u24, u25, u26, u27, u28, u29, u30, u31, u32, u33, u34, u35, rfl, hP⟩
    go_wp2
    simp only [Exit.jump]
    go_ret
    exact ⟨rfl, hP.out⟩
end Go.Proofs.YtlecidgfchaonaaDoor

namespace Go.Proofs.YtlecidgfchaonaaDoor
open Go.RowKit
attribute [local go_sem ↓] Go.wp_at_zero Go.wp_at_succ
theorem DrAt.slice1 {w : World} {D N M : Nat} {v : Value} (h : DrAt w D N v M) (v' : Value) : DrAt (w.setCell ⟨D, 1, none⟩ v') D N v' M := by
  obtain ⟨c0, c1, c2, f0, f1, f2⟩ := h
  exact ⟨(World.cell?_setCell_other _ _ _ _ (by simp)).trans c0, World.cell?_setCell_same _ _ _ c1, (World.cell?_setCell_other _ _ _ _ (by simp)).trans c2, by simp [f0], by simp [f1], by simp [f2]⟩
theorem next_oth_le {l : List ByteArray} {k fr lo hi : Nat} (h : nextF l k (othF fr lo hi 7) = 0) : nextV l k ≤ hi ∧ nextV l k ≠ fr := by
  have hl := next_lt h
  have hx : l[k]? = some l[k] := List.getElem?_eq_getElem hl
  rw [next_at _ hx] at h
  rw [nextV_at hx]
  split at h
  · cases h
  · unfold othF at h
    split at h
    · cases h
    · unfold limF at h
      split at h
      · cases h
      · omega
theorem oth_at {w w1 w2 : World} {p q r lo hi fr R T : Nat} {f : Int} {u : Value} (hL : LimAt w1 p q r lo hi f) (hP : (w.alloc (.cells #[u] T)).heap.size ≤ p ∧ (w.alloc (.cells #[u] T)).heap.size ≤ q ∧ (w.alloc (.cells #[u] T)).heap.size ≤ r) (hZ : w.heap.size < w1.heap.size) (hR : R < w.heap.size) {o : TypeId} (hG : (w1.alloc (.cells #[limV p q r] o)).grownBy w2 (some R)) {z : Value} (cF : w2.cell? ⟨w.heap.size, 0, none⟩ = some z) :
    OthAt (w2.setCell ⟨w.heap.size, 0, none⟩ (.int .u64 (fr : Int))) w.heap.size w1.heap.size p q r fr lo hi f := by
  have s1 : (w.alloc (.cells #[u] T)).heap.size = w.heap.size + 1 := by simp
  rw [s1] at hP
  obtain ⟨p0, q0, r0⟩ := hP
  have hL1 := (hL.on ((Below.refl _ w1).alloc (Nat.le_refl _) (.cells #[limV p q r] o))).far hG (fun e => by injection e; omega) (fun e => by injection e; omega) (fun e => by injection e; omega)
  have g1 := far_cell hG (q := ⟨w1.heap.size, 0, none⟩) (u := limV p q r) (show some w1.heap.size ≠ some R from fun e => by injection e; omega) (by simp)
  have ne : ∀ (b : Nat), w.heap.size < b → (⟨b, 0, none⟩ : Addr) ≠ ⟨w.heap.size, 0, none⟩ := fun b hb e => by injection e; omega
  have st : ∀ (b : Nat) (y : Value), w.heap.size < b → w2.cell? ⟨b, 0, none⟩ = some y → (w2.setCell ⟨w.heap.size, 0, none⟩ (.int .u64 (fr : Int))).cell? ⟨b, 0, none⟩ = some y := fun b y hb hy => (World.cell?_setCell_other _ _ _ _ (by first | exact ne b hb | exact (ne b hb).symm)).trans hy
  exact ⟨World.cell?_setCell_same _ _ _ cF, st _ _ hZ g1, st _ _ (by omega) hL1.1, st _ _ (by omega) hL1.2.1, st _ _ (by omega) hL1.2.2⟩
set_option maxHeartbeats 2000000 in
theorem edge_bad0 (l : List ByteArray) (hl : l.length ≤ 1000000) (hx : ∀ x ∈ l, x.size ≤ maxLen) (R k c D N hi M : Nat) (hk : k ≤ l.length) (a : Option Addr) (v : Value) (hN : N = hi + 1) (hN2 : N ≤ 4096) (F0 : Int) (h0 : nextF l k (limF 0 hi 7) = F0) (hF0 : F0 ≠ 0) (w : World) (hr : RdAt w R (.slice a l.length c) k) (hw : WdAt w R a l) (hd : DrAt w D N v M) (hDR : D ≠ R) :
    Calls Tryd.prog 33 #[.pointer (some ⟨D, 0, none⟩), nextVal R] w fun e w' => e = .returned (.int .i64 F0) ∧ RdAt w' R (.slice a l.length c) (k) ∧ DrAt w' D N v M ∧ w.grownBy w' (some R) := by
  have HN0 := Lib.hid (fun p q r W => nextl_bad l hl hx R k c hk a p q r 0 hi 7 F0 h0 hF0 W)
  have HW0 := Lib.hid (fun W => within_any 0 hi 7 W)
  have hb0 : (F0 != 0) = true := by rw [bne_iff_ne]; exact hF0
  clear hF0
  have eN : ((hi : Nat) : Int) = (N : Int) - 1 := by omega
  rw [eN] at HW0
  have q1 : (N : Int) ≤ 4096 := by omega
  have q2 : (1 : Int) ≤ (N : Int) := by omega
  have q3 : IntKind.u64.wrap ((N : Int) - 1) = (N : Int) - 1 := IntWalk.u64_in _ ⟨by omega, by omega⟩
  have HR0 := Lib.hid hr
  have HW := Lib.hid hw
  have HD := Lib.hid hd
  have hne : some D ≠ some R := fun e => hDR (Option.some.inj e)
  have hRw : R < w.heap.size := World.block_lt_of_cell? w _ hr.1
  have hDw : D < w.heap.size := World.block_lt_of_cell? w _ hd.1
  obtain ⟨m, hm⟩ : ∃ m, l.length = m := ⟨_, rfl⟩
  rw [hm] at HN0 HR0 ⊢
  have HBA : Hid (Below w.heap.size w (w.alloc (.cells #[.int .u64 0] 41))) := Lib.hid ((Below.refl _ w).alloc (Nat.le_refl _) _)
  have cD := cell_on HBA.out hd.1
  unfold nextVal
  clear hr hw hd hx hN hN2 eN
  go_enter Tryd.func33, Tryd.ntmps33
  go_wp2
  refine wp_scope_jumps 0 (fun a' w' => ∃ (u0 u1 u2 u3 u4 u5 u6 u7 u9 u10 u11 u12 u13 u14 u15 u16 u17 u18 u19 u20 u21 u22 u23 u24 u25 u26 u27 u28 u29 u30 u31 u32 u33 u34 u35 u36 u37 u38 u39 u40 u41 u42 u43 u44 u45 u46 u47 u48 u49 u50 u51 u52 u53 u54 u55 u56 u57 u58 u59 u60 u61 : Value), a' = { tmps := #[u0, u1, u2, u3, u4, u5, u6, u7, .int .i64 F0, u9, u10, u11, u12, u13, u14, u15, u16, u17, u18, u19, u20, u21, u22, u23, u24, u25, u26, u27, u28, u29, u30, u31, u32, u33, u34, u35, u36, u37, u38, u39, u40, u41, u42, u43, u44, u45, u46, u47, u48, u49, u50, u51, u52, u53, u54, u55, u56, u57, u58, u59, u60, u61], defers := [] } ∧ Hid (RdAt w' R (.slice a m c) (k) ∧ DrAt w' D N v M ∧ w.grownBy w' (some R))) (fun _ _ => 0) rfl ?_ ?_
  · go_wp2_with (first
      | (go_at_call 47; refine (HW0.out _).mono ?_; rintro e w1 ⟨p1, q1, r1, rfl, hp1, hq1, hr1, hL, hB⟩; have HL1 := Lib.hid hL; have HP1 := Lib.hid (And.intro hp1 (And.intro hq1 hr1)); have cF := cell_on hB (p := ⟨w.heap.size, 0, none⟩) (v := .int .u64 0) (by simp); have fF := frozen_on hB (p := ⟨w.heap.size, 0, none⟩) (v := .int .u64 0) (by simp) (by simp); have HB1 := Lib.hid (on_trans HBA.out hB); have HZ1 : Hid (w.heap.size < w1.heap.size) := Lib.hid (World.block_lt_of_cell? _ _ cF); clear hL hB HW0 cD hp1 hq1 hr1; unfold limV)
      | (go_at_call 31; refine (HN0.out p1 q1 r1 _ (HR0.out.on (HB1.out.alloc HB1.out.size _)) (HW.out.on (HB1.out.alloc HB1.out.size _)) (HL1.out.on ((Below.refl _ _).alloc (Nat.le_refl _) _))).mono ?_; rintro e w2 ⟨rfl, hR, hG⟩; have cF2 := far_cell hG (fun e => Nat.ne_of_gt hRw (Option.some.inj e)) (cell_on ((Below.refl _ _).alloc (Nat.le_refl _) _) cF); have fF2 := far_frozen hG (fun e => Nat.ne_of_gt hRw (Option.some.inj e)) (cell_on ((Below.refl _ _).alloc (Nat.le_refl _) _) cF) (frozen_on ((Below.refl _ _).alloc (Nat.le_refl _) _) cF fF); have HGa := Lib.hid hG; have HR2 := Lib.hid (hR.set (D := w.heap.size) (i := 0) (u := .int .u64 (0)) (Nat.ne_of_gt hRw)); have HG2 := Lib.hid (g_set (p := ⟨w.heap.size, 0, none⟩) (g_then (g_below (HB1.out.alloc HB1.out.size _) (some R)) hG (fun j h => .inl h)) (.int .u64 (0)) (.inl (Nat.le_refl _))); clear hR hG HN0 cF fF))
    go_step3
    exact ⟨rfl, _, _, _, _, _, _, _, _, _, _, _, _, _, _, _, _, _, _, _, _, _, _, _, _, _, _, _, _, _, _, _, _, _, _, _, _, _, _, _, _, _, _, _, _, _, _, _, _, _, _, _, _, _, _, _, _, _, _, _, _, _, rfl, Lib.hid ⟨HR2.out, HD.out.far HG2.out hne, HG2.out⟩⟩
  · rintro a' w' ⟨u0, u1, u2, u3, u4, u5, u6, u7, u9, u10, u11, u12, u13, u14, u15, u16, u17, u18, u19, u20, u21, u22, u23, u24, u25, u26, u27, u28, u29, u30, u31, u32, u33, u34, u35, u36, u37, u38, u39, u40, u41, u42, u43, u44, u45, u46, u47, u48, u49, u50, u51, u52, u53, u54, u55, u56, u57, u58, u59, u60, u61, rfl, hP⟩
    go_wp2
    simp only [Exit.jump]
    go_ret
    exact ⟨rfl, hP.out⟩
end Go.Proofs.YtlecidgfchaonaaDoor
