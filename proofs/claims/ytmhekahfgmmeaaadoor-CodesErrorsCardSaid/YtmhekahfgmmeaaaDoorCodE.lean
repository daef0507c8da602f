import Derived.Test.YtmhekahfgmmeaaaDoorCodD
set_option linter.unusedVariables false
set_option linter.unusedSimpArgs false
namespace Go.Proofs.YtmhekahfgmmeaaaDoor
open Go.RowKit Go.Extern.Stop Go.Stop Go.Extern
theorem cNoIsO (v : Value) (xT : TypeId) (w : World) : (Instr.typeAssert (.iface 54 v) xT 87 true).run Tryd.prog w = .ok (.tuple #[.nilIface, .bool false]) w := run_typeAssert_lacksB Tryd.underlying87 (by kernel_rfl) (by kernel_rfl) v xT w
theorem cIsE (v : Value) (xT : TypeId) (w : World) : (Instr.typeAssert (.iface 36 v) xT 87 true).run Tryd.prog w = .ok (.tuple #[.iface 36 v, .bool true]) w := run_typeAssert_hasB Tryd.underlying87 (by kernel_rfl) v xT w
theorem cNoUnE (v : Value) (xT : TypeId) (w : World) : (Instr.typeAssert (.iface 36 v) xT 82 true).run Tryd.prog w = .ok (.tuple #[.nilIface, .bool false]) w := run_typeAssert_lacksB Tryd.underlying82 (by kernel_rfl) (by kernel_rfl) v xT w
theorem cNoUnsE (v : Value) (xT : TypeId) (w : World) : (Instr.typeAssert (.iface 36 v) xT 84 true).run Tryd.prog w = .ok (.tuple #[.nilIface, .bool false]) w := run_typeAssert_lacksB Tryd.underlying84 (by kernel_rfl) (by kernel_rfl) v xT w
theorem cMIs (v : Value) (w : World) : (Go.method 219 36 v "Is").run Tryd.prog w = .ok (52, v) w := by kernel_rfl
/-- The model's entry for (rtype).Comparable, under a name that the walk does not open. -/
noncomputable def cmpImpl : Array Value → Sem Value := (Go.Extern.find Tryd.f62).getD (fun _ => pure (.tuple #[]))
theorem cCompE (w : World) : (cmpImpl #[.agg #[.pointer (some ⟨2, 36, none⟩)]]).run Tryd.prog w = .ok (.bool true) w := by kernel_rfl
theorem cCompX (w : World) : (cmpImpl #[.agg #[.pointer (some ⟨2, 69, none⟩)]]).run Tryd.prog w = .ok (.bool true) w := by kernel_rfl
theorem cMComp (v : Value) (w : World) : (Go.method 219 75 v "Comparable").run Tryd.prog w = .ok (62, v) w := by kernel_rfl
theorem cInfoE : (Tryd.prog.info? 36).map (·.comparable) = some true := by kernel_rfl
theorem cSizeE : (Tryd.prog.info? 50).map (·.size) = some 2 := by kernel_rfl
/-- An error of package codes: two cells in a block of its own. -/
def ErrAt (w : World) (p : Addr) (f : Int) (about : ByteArray) : Prop := ∃ b, p = ⟨b, 0, none⟩ ∧ w.heap[b]? = some (.cells #[.int .i64 f, .string about] 50 (0, 0))
theorem ErrAt.on {W w1 : World} (hb : Below W.heap.size W w1) {p : Addr} {f : Int} {s : ByteArray} (h : ErrAt W p f s) : ErrAt w1 p f s := by
  obtain ⟨b, hp, hh⟩ := h
  exact ⟨b, hp, by rw [hb.block b (Array.getElem?_eq_some_iff.1 hh).1]; exact hh⟩
theorem ErrAt.cells {W : World} {p : Addr} {f : Int} {s : ByteArray} (h : ErrAt W p f s) : ∃ b, p = ⟨b, 0, none⟩ ∧ W.cell? ⟨b, 0, none⟩ = some (.int .i64 f) ∧ W.cell? ⟨b, 1, none⟩ = some (.string s) := by
  obtain ⟨b, hp, hh⟩ := h
  exact ⟨b, hp, by rw [cell_of_row W b 0 _ _ _ hh]; rfl, by rw [cell_of_row W b 1 _ _ _ hh]; rfl⟩
set_option maxHeartbeats 1000000 in
/-- errors.is of an error of package codes behind so many wraps, and another of its own make: what its method Is says. -/
theorem is_err (lo k : Nat) (u : TypeId) (x : Value) (p q : Addr) (r : Bool) (w : World) (hC : Hid (Chain w lo k (.iface u x) (.iface 36 (.pointer (some p)))))
    (f1 f2 : Int) (s1 s2 : ByteArray) (hne : p ≠ q) (h1 : ErrAt w p f1 s1) (h2 : ErrAt w q f2 s2) (HI : Hid (∀ W, Below w.heap.size w W → Calls Tryd.prog 52 #[.pointer (some p), .iface 36 (.pointer (some q))] W fun e w' => e = .returned (.bool r) ∧ Below W.heap.size W w')) :
    Calls Tryd.prog 31 #[.iface u x, .iface 36 (.pointer (some q)), .bool true] w fun e w' => e = .returned (.bool r) ∧ Below w.heap.size w w' := by
  have nO := cNoIsO
  have uO := cUnO
  have mU := cMU
  have sE := cIsE
  have mI := cMIs
  have nE := cNoUnE
  have vE := cNoUnsE
  obtain ⟨i, hi, hcmp⟩ := Option.map_eq_some_iff.1 cInfoE
  obtain ⟨j, hj, hjs⟩ := Option.map_eq_some_iff.1 cSizeE
  obtain ⟨b1, e1, hh1⟩ := h1
  obtain ⟨b2, e2, hh2⟩ := h2
  have heq := run_eql_iface_ptr_other (P := Tryd.prog) w Tryd.underlying32 Tryd.underlying36 hi hcmp hj (by rw [hjs]; decide) hne (by rw [e1]; exact hh1) (by rw [e2]; exact hh2)
  clear hi hcmp hj hjs hh1 hh2 e1 e2 hne
  go_enter Tryd.func31, Tryd.ntmps31
  go_wp2
  go_loopg [0] k (fun g v wx => ∃ (u' : TypeId) (x' : Value), v = .iface u' x' ∧ Hid (Chain w lo g (.iface u' x') (.iface 36 (.pointer (some p)))) ∧ wx = w)
  case atStart => exact ⟨u, x, rfl, hC, rfl⟩
  case round =>
    obtain ⟨u', x', rfl, HC, rfl⟩ := hrel
    cases gk with
    | zero =>
      have he := HC.out
      injection he with e1 e2
      subst e1 e2
      clear nO uO mU hC HC
      cases r
      all_goals
        go_wp2_with (go_at_call 52; refine (HI.out _ (Below.refl _ _)).mono ?_; rintro e w1 ⟨rfl, hB⟩; have HB := Lib.hid hB; clear hB)
        go_ret
        exact ⟨rfl, HB.out⟩
    | succ g =>
      obtain ⟨b, u2, x2, he, _, hcell, HC2⟩ := HC.out
      injection he with e1 e2
      subst e1 e2
      have HC3 := Lib.hid HC2
      have hty := run_eql_iface_types (P := Tryd.prog) 54 36 (.pointer (some ⟨b, 0, none⟩)) (.pointer (some q)) Tryd.underlying32 (by decide) wr
      clear sE mI nE vE hC HC HC2
      go_wp2_with (go_at_call 55; refine (unwrap_any _ _ _ hcell).mono ?_; rintro e w' ⟨rfl, hw'⟩; obtain rfl := hw'.symm)
      go_roundg g
      case measure => omega
      case rel => exact ⟨u2, x2, rfl, HC3, rfl⟩
set_option maxHeartbeats 1000000 in
/-- The same against an error of errors.New's make. -/
theorem is_other (lo k : Nat) (u : TypeId) (x : Value) (p q : Addr) (r : Bool) (w : World) (hC : Hid (Chain w lo k (.iface u x) (.iface 36 (.pointer (some p)))))
    (HI : Hid (∀ W, Below w.heap.size w W → Calls Tryd.prog 52 #[.pointer (some p), .iface 69 (.pointer (some q))] W fun e w' => e = .returned (.bool r) ∧ Below W.heap.size W w')) :
    Calls Tryd.prog 31 #[.iface u x, .iface 69 (.pointer (some q)), .bool true] w fun e w' => e = .returned (.bool r) ∧ Below w.heap.size w w' := by
  have nO := cNoIsO
  have uO := cUnO
  have mU := cMU
  have sE := cIsE
  have mI := cMIs
  have nE := cNoUnE
  have vE := cNoUnsE
  have heq := run_eql_iface_types (P := Tryd.prog) 36 69 (.pointer (some p)) (.pointer (some q)) Tryd.underlying32 (by decide) w
  go_enter Tryd.func31, Tryd.ntmps31
  go_wp2
  go_loopg [0] k (fun g v wx => ∃ (u' : TypeId) (x' : Value), v = .iface u' x' ∧ Hid (Chain w lo g (.iface u' x') (.iface 36 (.pointer (some p)))) ∧ wx = w)
  case atStart => exact ⟨u, x, rfl, hC, rfl⟩
  case round =>
    obtain ⟨u', x', rfl, HC, rfl⟩ := hrel
    cases gk with
    | zero =>
      have he := HC.out
      injection he with e1 e2
      subst e1 e2
      clear nO uO mU hC HC
      cases r
      all_goals
        go_wp2_with (go_at_call 52; refine (HI.out _ (Below.refl _ _)).mono ?_; rintro e w1 ⟨rfl, hB⟩; have HB := Lib.hid hB; clear hB)
        go_ret
        exact ⟨rfl, HB.out⟩
    | succ g =>
      obtain ⟨b, u2, x2, he, _, hcell, HC2⟩ := HC.out
      injection he with e1 e2
      subst e1 e2
      have HC3 := Lib.hid HC2
      have hty := run_eql_iface_types (P := Tryd.prog) 54 69 (.pointer (some ⟨b, 0, none⟩)) (.pointer (some q)) Tryd.underlying32 (by decide) wr
      clear sE mI nE vE hC HC HC2
      go_wp2_with (go_at_call 55; refine (unwrap_any _ _ _ hcell).mono ?_; rintro e w' ⟨rfl, hw'⟩; obtain rfl := hw'.symm)
      go_roundg g
      case measure => omega
      case rel => exact ⟨u2, x2, rfl, HC3, rfl⟩
end Go.Proofs.YtmhekahfgmmeaaaDoor
