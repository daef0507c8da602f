import Derived.Test.YtmhekahfgmmeaaaDoorCodF
set_option linter.unusedVariables false
set_option linter.unusedSimpArgs false
namespace Go.Proofs.YtmhekahfgmmeaaaDoor
open Go.RowKit Go.Extern.Stop Go.Stop Go.Extern
set_option maxHeartbeats 1000000 in
theorem As_miss (lo k : Nat) (u : TypeId) (x y : Value) (t : Addr) (w : World) (hg : ErrT w) (hC : Chain w lo k (.iface u x) (.iface 69 y)) :
    Calls Tryd.prog 18 #[.iface u x, .iface 39 (.pointer (some t))] w fun e w' => e = .returned (.bool false) ∧ Below w.heap.size w w' := by
  have hV := @run_callFunc_extern Tryd.prog 26 _ (fun args => ReflectliteValue.unpack (args.getD 0 (.tuple #[]))) Tryd.func26 (by kernel_rfl) (by kernel_rfl) (by kernel_rfl) (by kernel_rfl)
  have h7 := @run_callFunc_extern Tryd.prog 27 _ (ReflectliteValue.methodAny (ReflectliteValue.valueError "reflectlite.Value.Type" 0) (fun t _ _ _ => ReflectliteType.toType t)) Tryd.func27 (by kernel_rfl) (by kernel_rfl) (by kernel_rfl) (by kernel_rfl)
  have h8 := @run_callFunc_extern Tryd.prog 28 _ (ReflectliteValue.method (ReflectliteValue.valueError "reflectlite.Value.IsNil" 0) ReflectliteValue.isNil) Tryd.func28 (by kernel_rfl) (by kernel_rfl) (by kernel_rfl) (by kernel_rfl)
  have hK := @run_callFunc_extern Tryd.prog 49 _ (ReflectliteType.abiMethod fun t => do pure (.int .u8 (← Rtype.kind t))) Tryd.func49 (by kernel_rfl) (by kernel_rfl) (by kernel_rfl) (by kernel_rfl)
  have hEl := @run_callFunc_extern Tryd.prog 63 _ (ReflectliteType.method ReflectliteType.elem) Tryd.func63 (by kernel_rfl) (by kernel_rfl) (by kernel_rfl) (by kernel_rfl)
  have hIm := @run_callFunc_extern Tryd.prog 64 _ (ReflectliteType.relation "Implements" ReflectliteType.implements_) Tryd.func64 (by kernel_rfl) (by kernel_rfl) (by kernel_rfl) (by kernel_rfl)
  have f6 := cV
  have f7 := cT
  have mK := cMK
  have mE := cME
  have mI := cMI
  have k2 := cKind2
  have k1 := cKind1
  have eT := cElemT
  have iT := cImpl
  have hB1 := (Below.refl w.heap.size w).alloc (Nat.le_refl _) (.cells #[.pointer (some t)] 39)
  have hB2 := hB1.alloc (by simp) (.cells #[.pointer (some ⟨2, 39, none⟩), .pointer (some ⟨w.heap.size, 0, none⟩), .int .u64 150] 60)
  have n8 := cIsNil ⟨w.heap.size, 0, none⟩ t ((w.alloc (.cells #[.pointer (some t)] 39)).alloc (.cells #[.pointer (some ⟨2, 39, none⟩), .pointer (some ⟨w.heap.size, 0, none⟩), .int .u64 150] 60)) (by simp)
  have hg2 : ((w.alloc (.cells #[.pointer (some t)] 39)).alloc (.cells #[.pointer (some ⟨2, 39, none⟩), .pointer (some ⟨w.heap.size, 0, none⟩), .int .u64 150] 60)).cell? ⟨1, 0, none⟩ = _ := cell_on hB2 hg
  have HAS := Lib.hid (as_miss lo k u x y t ⟨w.heap.size, 0, none⟩ ((w.alloc (.cells #[.pointer (some t)] 39)).alloc (.cells #[.pointer (some ⟨2, 39, none⟩), .pointer (some ⟨w.heap.size, 0, none⟩), .int .u64 150] 60)) (Lib.hid (hC.on hB2)))
  have HT : Hid (Below w.heap.size w _) := Lib.hid (hB2.alloc (by simp; omega) (.cells #[.pointer (some ⟨2, 39, none⟩), .pointer (some ⟨w.heap.size, 0, none⟩), .int .u64 150] 60))
  clear hB1 hB2 hg hC
  go_enter Tryd.func18, Tryd.ntmps18
  go_wp2_with (go_at_call 29; refine HAS.out.mono ?_; rintro e w' ⟨rfl, rfl⟩)
  go_ret
  exact ⟨rfl, HT.out⟩
set_option maxHeartbeats 400000 in
theorem Is_err (lo k : Nat) (u : TypeId) (x : Value) (p q : Addr) (r : Bool) (w : World) (hC : Chain w lo k (.iface u x) (.iface 36 (.pointer (some p))))
    (f1 f2 : Int) (s1 s2 : ByteArray) (hne : p ≠ q) (h1 : ErrAt w p f1 s1) (h2 : ErrAt w q f2 s2) (HI : Hid (∀ W, Below w.heap.size w W → Calls Tryd.prog 52 #[.pointer (some p), .iface 36 (.pointer (some q))] W fun e w' => e = .returned (.bool r) ∧ Below W.heap.size W w')) :
    Calls Tryd.prog 22 #[.iface u x, .iface 36 (.pointer (some q))] w fun e w' => e = .returned (.bool r) ∧ Below w.heap.size w w' := by
  have hT := @run_callFunc_extern Tryd.prog 30 _ ReflectliteType.typeOf Tryd.func30 (by kernel_rfl) (by kernel_rfl) (by kernel_rfl) (by kernel_rfl)
  have hCo := @run_callFunc_extern Tryd.prog 62 _ cmpImpl Tryd.func62 (by kernel_rfl) (by kernel_rfl) (by kernel_rfl) (by kernel_rfl)
  have tT := cTypeOfE
  have cT := cCompE
  have mC := cMComp
  have HAS := Lib.hid (is_err lo k u x p q r w (Lib.hid hC) f1 f2 s1 s2 hne h1 h2 HI)
  clear HI hne h1 h2 hC
  go_enter Tryd.func22, Tryd.ntmps22
  go_wp2_with (go_at_call 31; refine HAS.out.mono ?_; rintro e w' ⟨rfl, hB⟩)
  go_ret
  exact ⟨rfl, hB⟩
set_option maxHeartbeats 400000 in
theorem Is_other (lo k : Nat) (u : TypeId) (x : Value) (p q : Addr) (r : Bool) (w : World) (hC : Chain w lo k (.iface u x) (.iface 36 (.pointer (some p))))
    (HI : Hid (∀ W, Below w.heap.size w W → Calls Tryd.prog 52 #[.pointer (some p), .iface 69 (.pointer (some q))] W fun e w' => e = .returned (.bool r) ∧ Below W.heap.size W w')) :
    Calls Tryd.prog 22 #[.iface u x, .iface 69 (.pointer (some q))] w fun e w' => e = .returned (.bool r) ∧ Below w.heap.size w w' := by
  have hT := @run_callFunc_extern Tryd.prog 30 _ ReflectliteType.typeOf Tryd.func30 (by kernel_rfl) (by kernel_rfl) (by kernel_rfl) (by kernel_rfl)
  have hCo := @run_callFunc_extern Tryd.prog 62 _ cmpImpl Tryd.func62 (by kernel_rfl) (by kernel_rfl) (by kernel_rfl) (by kernel_rfl)
  have tT := cTypeOfX
  have cT := cCompX
  have mC := cMComp
  have HAS := Lib.hid (is_other lo k u x p q r w (Lib.hid hC) HI)
  clear HI hC
  go_enter Tryd.func22, Tryd.ntmps22
  go_wp2_with (go_at_call 31; refine HAS.out.mono ?_; rintro e w' ⟨rfl, hB⟩)
  go_ret
  exact ⟨rfl, hB⟩
end Go.Proofs.YtmhekahfgmmeaaaDoor
