import Derived.Test.YtmhekahfgmmeaaaDoorCodC
set_option linter.unusedVariables false
set_option linter.unusedSimpArgs false
namespace Go.Proofs.YtmhekahfgmmeaaaDoor
open Go.RowKit Go.Extern.Stop Go.Stop Go.Extern
set_option maxHeartbeats 1000000 in
/-- errors.as behind so many wraps, at an error of errors.New's make: not found. -/
theorem as_miss (lo k : Nat) (u : TypeId) (x y : Value) (t a : Addr) (w : World) (hC : Hid (Chain w lo k (.iface u x) (.iface 69 y))) :
    Calls Tryd.prog 29 #[.iface u x, .iface 39 (.pointer (some t)), .agg #[.pointer (some ⟨2, 39, none⟩), .pointer (some a), .int .u64 150], .iface 75 (.agg #[.pointer (some ⟨2, 36, none⟩)])] w fun e w' => e = .returned (.bool false) ∧ w' = w.alloc (.cells #[.pointer (some ⟨2, 39, none⟩), .pointer (some a), .int .u64 150] 60) := by
  have hT := @run_callFunc_extern Tryd.prog 30 _ ReflectliteType.typeOf Tryd.func30 (by kernel_rfl) (by kernel_rfl) (by kernel_rfl) (by kernel_rfl)
  have hA := @run_callFunc_extern Tryd.prog 61 _ (ReflectliteType.relation "AssignableTo" ReflectliteType.assignableTo) Tryd.func61 (by kernel_rfl) (by kernel_rfl) (by kernel_rfl) (by kernel_rfl)
  have tO := cTypeOfO
  have aO := cAssO
  have nO := cNoAsO
  have uO := cUnO
  have mA := cMA
  have mU := cMU
  have tX := cTypeOfX
  have aX := cAssX
  have nX := cNoAsX
  have uX := cNoUnX
  have vX := cNoUnsX
  have HB1 := Lib.hid ((Below.refl w.heap.size w).alloc (Nat.le_refl _) (.cells #[.pointer (some ⟨2, 39, none⟩), .pointer (some a), .int .u64 150] 60))
  go_enter Tryd.func29, Tryd.ntmps29
  go_wp2
  go_loopg [0] k (fun g v wx => ∃ (u' : TypeId) (x' : Value), v = .iface u' x' ∧ Hid (Chain w lo g (.iface u' x') (.iface 69 y)) ∧ wx = w.alloc (.cells #[.pointer (some ⟨2, 39, none⟩), .pointer (some a), .int .u64 150] 60))
  case atStart => exact ⟨u, x, rfl, hC, rfl⟩
  case round =>
    obtain ⟨u', x', rfl, HC, rfl⟩ := hrel
    cases gk with
    | zero =>
      have he := HC.out
      injection he with e1 e2
      subst e1 e2
      clear tO aO nO uO mU hC HC
      go_wp2
      go_ret
      exact ⟨rfl, rfl⟩
    | succ g =>
      obtain ⟨b, u2, x2, he, _, hcell, HC2⟩ := HC.out
      injection he with e1 e2
      subst e1 e2
      have HC3 := Lib.hid HC2
      have hcell' := cell_on HB1.out hcell
      clear tX aX nX uX vX hC HC hcell HC2
      go_wp2_with (go_at_call 55; refine (unwrap_any _ _ _ hcell').mono ?_; rintro e w' ⟨rfl, hw'⟩; obtain rfl := hw'.symm)
      go_roundg g
      case measure => omega
      case rel => exact ⟨u2, x2, rfl, HC3, rfl⟩
theorem cMK (h : Value) (w : World) : (Go.method 219 75 (.agg #[h]) "Kind").run Tryd.prog w = .ok (49, h) w := by kernel_rfl
theorem cME (h : Value) (w : World) : (Go.method 219 75 (.agg #[h]) "Elem").run Tryd.prog w = .ok (63, .agg #[h]) w := by kernel_rfl
theorem cMI (h : Value) (w : World) : (Go.method 219 75 (.agg #[h]) "Implements").run Tryd.prog w = .ok (64, .agg #[h]) w := by kernel_rfl
theorem cKind2 (w : World) : ((ReflectliteType.abiMethod fun t => (fun a : Nat => Value.int IntKind.u8 (a : Int)) <$> Rtype.kind t) #[.pointer (some ⟨2, 39, none⟩)]).run Tryd.prog w = .ok (.int .u8 22) w := by kernel_rfl
theorem cKind1 (w : World) : ((ReflectliteType.abiMethod fun t => (fun a : Nat => Value.int IntKind.u8 (a : Int)) <$> Rtype.kind t) #[.pointer (some ⟨2, 36, none⟩)]).run Tryd.prog w = .ok (.int .u8 22) w := by kernel_rfl
theorem cElemT (w : World) : (ReflectliteType.method ReflectliteType.elem #[.agg #[.pointer (some ⟨2, 39, none⟩)]]).run Tryd.prog w = .ok (.iface 75 (.agg #[.pointer (some ⟨2, 36, none⟩)])) w := by kernel_rfl
theorem cImpl (w : World) : (ReflectliteType.relation "Implements" ReflectliteType.implements_ #[.agg #[.pointer (some ⟨2, 36, none⟩)], .iface 75 (.agg #[.pointer (some ⟨2, 32, none⟩)])]).run Tryd.prog w = .ok (.bool true) w := by kernel_rfl
/-- The library's variable errors.errorType holds the type error. -/
def ErrT (w : World) : Prop := w.cell? ⟨1, 0, none⟩ = some (.iface 75 (.agg #[.pointer (some ⟨2, 32, none⟩)]))
set_option maxHeartbeats 1000000 in
theorem As_hit (lo k : Nat) (u : TypeId) (x : Value) (p t : Addr) (old : Value) (w : World) (hg : ErrT w) (hC : Chain w lo k (.iface u x) (.iface 36 (.pointer (some p)))) (ht : w.cell? t = some old) (hf : w.frozen? t = false) :
    Calls Tryd.prog 18 #[.iface u x, .iface 39 (.pointer (some t))] w fun e w' => e = .returned (.bool true) ∧ Touch w t (.pointer (some p)) w' := by
  have hV := @run_callFunc_extern Tryd.prog 26 _ (fun args => ReflectliteValue.unpack (args.getD 0 (.tuple #[]))) Tryd.func26 (by kernel_rfl) (by kernel_rfl) (by kernel_rfl) (by kernel_rfl)
  have h7 := @run_callFunc_extern Tryd.prog 27 _ (ReflectliteValue.methodAny (ReflectliteValue.valueError "reflectlite.Value.Type" 0) (fun t _ _ _ => ReflectliteType.toType t)) Tryd.func27 (by kernel_rfl) (by kernel_rfl) (by kernel_rfl) (by kernel_rfl)
  have h8 := @run_callFunc_extern Tryd.prog 28 _ (ReflectliteValue.method (ReflectliteValue.valueError "reflectlite.Value.IsNil" 0) ReflectliteValue.isNil) Tryd.func28 (by kernel_rfl) (by kernel_rfl) (by kernel_rfl) (by kernel_rfl)
  have hK := @run_callFunc_extern Tryd.prog 49 _ (ReflectliteType.abiMethod fun t => do pure (.int .u8 (← Rtype.kind t))) Tryd.func49 (by kernel_rfl) (by kernel_rfl) (by kernel_rfl) (by kernel_rfl)
  have hEl := @run_callFunc_extern Tryd.prog 63 _ (ReflectliteType.method ReflectliteType.elem) Tryd.func63 (by kernel_rfl) (by kernel_rfl) (by kernel_rfl) (by kernel_rfl)
  have hIm := @run_callFunc_extern Tryd.prog 64 _ (ReflectliteType.relation "Implements" ReflectliteType.implements_) Tryd.func64 (by kernel_rfl) (by kernel_rfl) (by kernel_rfl) (by kernel_rfl)
  have f6 := cV
  have f7 := cT
  have mK := cMK
  have mE := cME
  have mI := cMI
  have k2 := cKind2
  have k1 := cKind1
  have eT := cElemT
  have iT := cImpl
  have hB1 := (Below.refl w.heap.size w).alloc (Nat.le_refl _) (.cells #[.pointer (some t)] 39)
  have hB2 := hB1.alloc (by simp) (.cells #[.pointer (some ⟨2, 39, none⟩), .pointer (some ⟨w.heap.size, 0, none⟩), .int .u64 150] 60)
  have n8 := cIsNil ⟨w.heap.size, 0, none⟩ t ((w.alloc (.cells #[.pointer (some t)] 39)).alloc (.cells #[.pointer (some ⟨2, 39, none⟩), .pointer (some ⟨w.heap.size, 0, none⟩), .int .u64 150] 60)) (by simp)
  have hg2 : ((w.alloc (.cells #[.pointer (some t)] 39)).alloc (.cells #[.pointer (some ⟨2, 39, none⟩), .pointer (some ⟨w.heap.size, 0, none⟩), .int .u64 150] 60)).cell? ⟨1, 0, none⟩ = _ := cell_on hB2 hg
  have HAS := Lib.hid (as_hit lo k u x p t ⟨w.heap.size, 0, none⟩ old ((w.alloc (.cells #[.pointer (some t)] 39)).alloc (.cells #[.pointer (some ⟨2, 39, none⟩), .pointer (some ⟨w.heap.size, 0, none⟩), .int .u64 150] 60)) (Lib.hid (hC.on hB2)) (by simp) (cell_on hB2 ht) (frozen_on hB2 ht hf))
  have HT : Hid (Touch w t (.pointer (some p)) _) := Lib.hid (touch_set (v := .pointer (some p)) ((hB2.alloc (by simp; omega) (.cells #[.pointer (some ⟨2, 39, none⟩), .pointer (some ⟨w.heap.size, 0, none⟩), .int .u64 150] 60)).alloc (by simp; omega) (.cells #[.pointer (some p)] 36)) ht hf)
  clear hB1 hB2 hg hC ht hf
  go_enter Tryd.func18, Tryd.ntmps18
  go_wp2_with (go_at_call 29; refine HAS.out.mono ?_; rintro e w' ⟨rfl, rfl⟩)
  go_ret
  exact ⟨rfl, HT.out⟩
end Go.Proofs.YtmhekahfgmmeaaaDoor
