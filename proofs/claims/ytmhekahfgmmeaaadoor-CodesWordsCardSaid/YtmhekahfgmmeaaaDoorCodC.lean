import Derived.Test.YtmhekahfgmmeaaaDoorCodB
set_option linter.unusedVariables false
set_option linter.unusedSimpArgs false
namespace Go.Proofs.YtmhekahfgmmeaaaDoor
open Go.RowKit Go.Extern.Stop Go.Stop Go.Extern
/-- (Value).Set: the *codes.Error variable at 'ta' gets what the Value's own variable 'b' holds. -/
theorem cSet (ta b e : Addr) (old : Value) (W : World) (hb : W.cell? b = some (.pointer (some e))) (ht : W.cell? ta = some old) (hf : W.frozen? ta = false) :
    (ReflectliteValue.set #[.agg #[.pointer (some ⟨2, 36, none⟩), .pointer (some ta), .int .u64 406], .agg #[.pointer (some ⟨2, 36, none⟩), .pointer (some b), .int .u64 150]]).run Tryd.prog W
      = .ok (.tuple #[]) (W.setCell ta (.pointer (some e))) := by
  refine Eq.trans (congrArg (fun m => m.run Tryd.prog W) (show ReflectliteValue.set #[(.agg #[.pointer (some ⟨2, 36, none⟩), .pointer (some ta), .int .u64 406]), (.agg #[.pointer (some ⟨2, 36, none⟩), .pointer (some b), .int .u64 150])] = (ReflectliteValue.parts (.agg #[.pointer (some ⟨2, 36, none⟩), .pointer (some ta), .int .u64 406]) >>= fun a => ReflectliteValue.parts (.agg #[.pointer (some ⟨2, 36, none⟩), .pointer (some b), .int .u64 150]) >>= fun c => _) from rfl)) ?_
  simp only [Sem.run_bind, cPartsA, cPartsB, Result.andThen]
  simp [ReflectliteValue.flagAddr, loadVar, isAgg, underlying, Tryd.underlying36, hb, Result.andThen, cDirect, storeVar, Value.cells, storeCells, Addr.add]
  rw [run_store Tryd.prog W ta _ _ (by rfl)]
  simp [ht, hf]
set_option maxHeartbeats 1000000 in
/-- errors.as behind so many wraps, at a *codes.Error: the target's variable gets it. -/
theorem as_hit (lo k : Nat) (u : TypeId) (x : Value) (p t a : Addr) (old : Value) (w : World) (hC : Hid (Chain w lo k (.iface u x) (.iface 36 (.pointer (some p))))) (ha : w.cell? a = some (.pointer (some t))) (ht : w.cell? t = some old) (hf : w.frozen? t = false) :
    Calls Tryd.prog 29 #[.iface u x, .iface 39 (.pointer (some t)), .agg #[.pointer (some ⟨2, 39, none⟩), .pointer (some a), .int .u64 150], .iface 75 (.agg #[.pointer (some ⟨2, 36, none⟩)])] w fun e w' => e = .returned (.bool true) ∧ w' = ((w.alloc (.cells #[.pointer (some ⟨2, 39, none⟩), .pointer (some a), .int .u64 150] 60)).alloc (.cells #[.pointer (some p)] 36)).setCell t (.pointer (some p)) := by
  have hT := @run_callFunc_extern Tryd.prog 30 _ ReflectliteType.typeOf Tryd.func30 (by kernel_rfl) (by kernel_rfl) (by kernel_rfl) (by kernel_rfl)
  have hA := @run_callFunc_extern Tryd.prog 61 _ (ReflectliteType.relation "AssignableTo" ReflectliteType.assignableTo) Tryd.func61 (by kernel_rfl) (by kernel_rfl) (by kernel_rfl) (by kernel_rfl)
  have hV := @run_callFunc_extern Tryd.prog 26 _ (fun args => ReflectliteValue.unpack (args.getD 0 (.tuple #[]))) Tryd.func26 (by kernel_rfl) (by kernel_rfl) (by kernel_rfl) (by kernel_rfl)
  have hE := @run_callFunc_extern Tryd.prog 33 _ (ReflectliteValue.method (ReflectliteValue.valueError "reflectlite.Value.Elem" 0) ReflectliteValue.elem) Tryd.func33 (by kernel_rfl) (by kernel_rfl) (by kernel_rfl) (by kernel_rfl)
  have hS := @run_callFunc_extern Tryd.prog 34 _ ReflectliteValue.set Tryd.func34 (by kernel_rfl) (by kernel_rfl) (by kernel_rfl) (by kernel_rfl)
  have tO := cTypeOfO
  have aO := cAssO
  have nO := cNoAsO
  have uO := cUnO
  have mA := cMA
  have mU := cMU
  have tE := cTypeOfE
  have aE := cAssE
  have vE := cVE
  have hB1 := (Below.refl w.heap.size w).alloc (Nat.le_refl _) (.cells #[.pointer (some ⟨2, 39, none⟩), .pointer (some a), .int .u64 150] 60)
  have hB2 := hB1.alloc (by simp) (.cells #[.pointer (some p)] 36)
  have hel := cElem a t (w.alloc (.cells #[.pointer (some ⟨2, 39, none⟩), .pointer (some a), .int .u64 150] 60)) (cell_on hB1 ha)
  have hst := cSet t ⟨w.heap.size + 1, 0, none⟩ p old ((w.alloc (.cells #[.pointer (some ⟨2, 39, none⟩), .pointer (some a), .int .u64 150] 60)).alloc (.cells #[.pointer (some p)] 36)) (by rw [World.cell?_alloc_at _ _ _ _ (by simp)]; rfl) (cell_on hB2 ht) (frozen_on hB2 ht hf)
  have HB1 := Lib.hid hB1
  clear hB1 hB2 ha ht hf
  go_enter Tryd.func29, Tryd.ntmps29
  go_wp2
  go_loopg [0] k (fun g v wx => ∃ (u' : TypeId) (x' : Value), v = .iface u' x' ∧ Hid (Chain w lo g (.iface u' x') (.iface 36 (.pointer (some p)))) ∧ wx = w.alloc (.cells #[.pointer (some ⟨2, 39, none⟩), .pointer (some a), .int .u64 150] 60))
  case atStart => exact ⟨u, x, rfl, hC, rfl⟩
  case round =>
    obtain ⟨u', x', rfl, HC, rfl⟩ := hrel
    cases gk with
    | zero =>
      have he := HC.out
      injection he with e1 e2
      subst e1 e2
      clear tO aO nO uO mU hC HC
      go_wp2
      go_ret
      exact ⟨rfl, rfl⟩
    | succ g =>
      obtain ⟨b, u2, x2, he, _, hcell, HC2⟩ := HC.out
      injection he with e1 e2
      subst e1 e2
      have HC3 := Lib.hid HC2
      have hcell' := cell_on HB1.out hcell
      clear tE aE vE hel hst hC HC hcell HC2
      go_wp2_with (go_at_call 55; refine (unwrap_any _ _ _ hcell').mono ?_; rintro e w' ⟨rfl, hw'⟩; obtain rfl := hw'.symm)
      go_roundg g
      case measure => omega
      case rel => exact ⟨u2, x2, rfl, HC3, rfl⟩
end Go.Proofs.YtmhekahfgmmeaaaDoor
