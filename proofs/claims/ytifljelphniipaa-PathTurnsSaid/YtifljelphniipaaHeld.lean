import Derived.Test.YtifljelphniipaaRows
import Derived.OrdersHeld
import Derived.StillTail
import Derived.Deep.RegionHeld3
set_option linter.unusedVariables false
set_option linter.unusedSimpArgs false
namespace Go.Proofs.Ytifljelphniipaa
/-! A REGION THAT DRAWS ITS ORDER AND WHOSE LAST OPERATION STORES INTO A CELL THAT IT LOADS ('x.f = append(x.f, ..)'): S is shown anew behind each operation but that last one, number g, which waits for all that is taken first. -/
section
variable {P : Program} {ops : Array Oper} {Q : Exit → Act → World → Prop} {md : Region.Mode} {S : World → Prop} {g : Nat}
/-- Whatever order is picked from here on, and S holds behind every operation but number g. -/
def wpTill (P : Program) (md : Region.Mode) (ops : Array Oper) (Q : Exit → Act → World → Prop) (S : World → Prop) (g : Nat) : Nat → Array Bool → Act → World → Prop
  | 0, L, a, w => Region.ready md ops L = [] ∧ Q .normal a w
  | n + 1, L, a, w => (Region.ready md ops L = [] → Q .normal a w) ∧
    ∀ j ∈ Region.ready md ops L, wpOp P ops Q j (fun a' w' => (j ≠ g → S w') ∧ wpTill P md ops Q S g n (L.setIfInBounds j true) a' w') a w
theorem wpTill_any : ∀ (n : Nat) (L : Array Bool) (a : Act) (w : World), wpTill P md ops Q S g n L a w → wpAny P md ops Q n L a w
  | 0, _, _, _, h => h
  | n + 1, _, _, _, h => ⟨h.1, fun j hj => wpOp_mono (fun a' w' h' => wpTill_any n _ a' w' h'.2) (h.2 j hj)⟩
theorem unlisted {i : Nat} {L : Array Bool} (hi : i ∈ Region.ready md ops L) : L.getD i false = false := by
  have h0 := (mem_ready.1 hi).1
  rcases Nat.lt_or_ge i L.size with h | h
  · simpa [h] using h0
  · simp [Array.getElem?_eq_none h]
/-- Whoever has come up has all come up that he waited for. -/
def closB (md : Region.Mode) (ops : Array Oper) (L : Array Bool) : Bool := (List.range ops.size).all fun j => match ops[j]? with
  | some o => !(L.getD j false) || o.after.all fun e => !(Region.binds md e) || L.getD e.on false
  | none => true
theorem closB_spec {L : Array Bool} (h : closB md ops L = true) {j : Nat} {o : Oper} (ho : ops[j]? = some o) (hj : L.getD j false = true) : ∀ e ∈ o.after, Region.binds md e = true → L.getD e.on false = true := fun e he hb => by
  have hlt : j < ops.size := (Array.getElem?_eq_some_iff.1 ho).1
  have h1 := List.all_eq_true.1 h j (List.mem_range.2 hlt)
  simp only [ho, hj, Bool.not_true, Bool.false_or] at h1
  have h2 := Array.all_eq_true'.1 h1 e he
  simpa [hb] using h2
theorem closB_set {L : Array Bool} {j : Nat} (h : closB md ops L = true) (hj : j ∈ Region.ready md ops L) : closB md ops (L.setIfInBounds j true) = true := by
  unfold closB
  rw [List.all_eq_true]
  intro k _
  cases ho : ops[k]? with
  | none => rfl
  | some o =>
    simp only
    rw [Bool.or_eq_true]
    by_cases hk : (L.setIfInBounds j true).getD k false = true
    · right
      rw [Array.all_eq_true']
      intro e he
      rw [Bool.or_eq_true]
      by_cases hb : Region.binds md e = true
      · right
        by_cases x : k = j
        · obtain ⟨_, o', ho', hall⟩ := mem_ready.1 hj
          rw [← x, ho] at ho'
          obtain rfl := Option.some.inj ho'
          exact getD_set_true (hall e he hb)
        · rw [getD_set_ne false (fun y => x y.symm)] at hk
          exact getD_set_true (closB_spec h ho hk e he hb)
      · left
        simpa using hb
    · left
      simpa using hk
/-- j waits for i, or for one who does. -/
def waitsB (md : Region.Mode) (ops : Array Oper) (i : Nat) : Nat → Nat → Bool
  | 0, _ => false
  | n + 1, j => match ops[j]? with
    | some o => (o.after.any fun e => Region.binds md e && e.on == i) || o.after.any fun e => Region.binds md e && waitsB md ops i n e.on
    | none => false
theorem waitsB_down {L : Array Bool} (h : closB md ops L = true) {i : Nat} : ∀ (n j : Nat), waitsB md ops i n j = true → L.getD j false = true → L.getD i false = true
  | 0, _, hw, _ => by cases hw
  | n + 1, j, hw, hj => by
    unfold waitsB at hw
    split at hw
    · rename_i o ho
      rw [Bool.or_eq_true] at hw
      rcases hw with hw | hw
      · obtain ⟨e, he, hb⟩ := Array.any_eq_true'.1 hw
        rw [Bool.and_eq_true, beq_iff_eq] at hb
        rw [← hb.2]
        exact closB_spec h ho hj e he hb.1
      · obtain ⟨e, he, hb⟩ := Array.any_eq_true'.1 hw
        rw [Bool.and_eq_true] at hb
        exact waitsB_down h n _ hb.2 (closB_spec h ho hj e he hb.1)
    · cases hw
theorem waitsB_ready {L : Array Bool} (h : closB md ops L = true) {i j n : Nat} (hw : waitsB md ops i n j = true) (hi : L.getD i false = false) : j ∉ Region.ready md ops L := fun hj => by
  obtain ⟨_, o, ho, hall⟩ := mem_ready.1 hj
  cases n with
  | zero => cases hw
  | succ n =>
    unfold waitsB at hw
    simp only [ho] at hw
    rw [Bool.or_eq_true] at hw
    rcases hw with hw | hw
    · obtain ⟨e, he, hb⟩ := Array.any_eq_true'.1 hw
      rw [Bool.and_eq_true, beq_iff_eq] at hb
      have h1 := hall e he hb.1
      rw [hb.2, hi] at h1
      cases h1
    · obtain ⟨e, he, hb⟩ := Array.any_eq_true'.1 hw
      rw [Bool.and_eq_true] at hb
      rw [waitsB_down h n _ hb.2 (hall e he hb.1)] at hi
      cases hi
theorem wpTill_first {i : Nat} {oi : Oper} {v : Value} (hi : ops[i]? = some oi) (hsel : ∀ (j : Nat) (o : Oper) cs b, ops[j]? = some o → o.op ≠ .select cs b)
    (hQ : ∀ c a w, Q (.panic c) (a.put oi.dst v) w → Q (.panic c) a w) (hwg : waitsB md ops i ops.size g = true) :
    ∀ (n : Nat) (L : Array Bool) (a : Act) (w : World),
      (∀ j oj, ops[j]? = some oj → j ≠ i → L.getD j true = false → (∀ e ∈ oj.after, Region.binds md e = true → e.on ≠ i) → oi.apart ops oj = true) →
      closB md ops L = true → i ∈ Region.ready md ops L → YieldsIf P ops S oi v a → S w →
      wpTill P md ops Q S g n (L.setIfInBounds i true) (a.put oi.dst v) w → wpTill P md ops Q S g (n + 1) L a w := by
  intro n
  induction n with
  | zero =>
    intro L a w hfree hcl hr hy hS H
    refine ⟨fun h => absurd hr (by rw [h]; simp), fun j hj => ?_⟩
    by_cases e : j = i
    · rw [e]
      exact hy.wpOp hi hS ⟨fun _ => hS, by rw [← e]; rw [← e] at H; exact H⟩
    · have := ready_mono hj e
      rw [H.1] at this
      cases this
  | succ n ih =>
    intro L a w hfree hcl hr hy hS H
    refine ⟨fun h => absurd hr (by rw [h]; simp), fun j hj => ?_⟩
    by_cases e : j = i
    · rw [e]
      exact hy.wpOp hi hS ⟨fun _ => hS, by rw [← e]; rw [← e] at H; exact H⟩
    · have hu := unlisted hr
      have hjg : j ≠ g := fun x => waitsB_ready hcl hwg hu (by rw [← x]; exact hj)
      obtain ⟨hj0, oj, hoj, hall⟩ := mem_ready.1 hj
      have hno : ∀ d ∈ oj.after, Region.binds md d = true → d.on ≠ i := fun d hd hb x => by
        have := hall d hd hb
        rw [x, hu] at this
        cases this
      refine wpOp_mono ?_ (wpOp_putIf hoj (hfree j oj hoj e hj0 hno) (fun cs b => hsel i oi cs b hi) (fun cs b => hsel j oj cs b hoj) hQ hy (H.2 j (ready_mono hj e)))
      rintro a' w' ⟨hy', hS', hT⟩
      refine ⟨fun _ => hS' hjg, ih _ a' w' (fun k ok hk hki h0 hn => hfree k ok hk hki ?_ hn) (closB_set hcl hj) (ready_mono hr fun x => e x.symm) hy' (hS' hjg) ?_⟩
      · by_cases x : j = k
        · rw [← x]; exact hj0
        · rw [getD_set_ne true x] at h0; exact h0
      · rw [Array.setIfInBounds_comm _ _ e]
        exact hT
theorem wpTill_take {i : Nat} {oi : Oper} {v : Value} {n : Nat} {L : Array Bool} {a : Act} {w : World} (hi : ops[i]? = some oi)
    (hs : Region.noSelect ops = true) (hf : Region.free md ops L i = true) (hr : (Region.ready md ops L).contains i = true) (hwg : waitsB md ops i ops.size g = true) (hcl : closB md ops L = true)
    (hQ : ∀ c a w, Q (.panic c) (a.put oi.dst v) w → Q (.panic c) a w) (hy : YieldsIf P ops S oi v a) (hS : S w)
    (h : wpTill P md ops Q S g n (L.setIfInBounds i true) (a.put oi.dst v) w) : wpTill P md ops Q S g (n + 1) L a w :=
  wpTill_first hi (Region.noSelect_spec hs) hQ hwg n L a w (Region.free_spec hi hf) hcl (by simpa using hr) hy hS h
theorem wpTill_one {i : Nat} {o : Oper} {n : Nat} {L : Array Bool} {a : Act} {w : World} (hr : Region.ready md ops L = [i]) (ho : ops[i]? = some o)
    (h : ∀ K : Act → World → Prop, Shut (∀ a w, (i ≠ g → S w) → ((i ≠ g → S w) → wpTill P md ops Q S g n (L.setIfInBounds i true) a w) → K a w) → if Region.wanted o (yielded ops a.tmps) = true then Oper.wp P o a w K Q else K (a.put o.dst undef) w) :
    wpTill P md ops Q S g (n + 1) L a w := by
  refine ⟨fun h0 => (by rw [hr] at h0; cases h0), fun j hj => ?_⟩
  rw [hr, List.mem_singleton] at hj
  subst hj
  exact wpOp_step ho (fun K hK => h K (fun a w h1 h2 => hK a w ⟨h1, h2 h1⟩))
theorem wpTill_done {L : Array Bool} {a : Act} {w : World} (hr : Region.ready md ops L = []) (h : Q .normal a w) : ∀ n, wpTill P md ops Q S g n L a w
  | 0 => ⟨hr, h⟩
  | _ + 1 => ⟨fun _ => h, by rw [hr]; simp⟩
theorem region_till {id : Nat} {a : Act} {w : World} (S : World → Prop) (g : Nat) (hm : P.follows .mixedOrders = true) (hS : S w.drew)
    (h : S w.drew → wpTill P .any ops Q S g ops.size (Array.replicate ops.size false) a w.drew) : (Code.region id ops true).wp P Q a w :=
  wp_region_any hm (wpTill_any _ _ _ _ (h hS))
end
end Go.Proofs.Ytifljelphniipaa
