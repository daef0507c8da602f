import Derived.Test.YtapfgfpkcnkgbaaDoorNumC
import Derived.WalkSmall
import Derived.Deep.RegionWith
import Derived.Great.BuildSlice
import Derived.Lib.ItoaLen
set_option linter.unusedVariables false
namespace Go.Proofs.YtapfgfpkcnkgbaaDoor
open Go.RowKit Go.Sort Go.Lib
theorem gTab : Tryd.prog.globalNamed "internal/strconv.uint64pow10" = some 3 := by kernel_rfl
theorem pow10_below {B : Nat} {w w' : World} (h : Pow10 w) (hb : Below B w w') (hB : 3 < B) : Pow10 w' :=
  var?_below hb gTab hB h
theorem size_pos {w : World} (h : Pow10 w) : 3 < w.heap.size := by
  unfold Pow10 Lib.TabIs World.var? at h
  rw [gTab] at h
  rcases Nat.lt_or_ge 3 w.heap.size with e | e
  · exact e
  · rw [Option.bind_some, Array.getElem?_eq_none e] at h; cases h
theorem fmt_any (u : Nat) (hu : u < 18446744073709551616) (w : World) (htab : Pow10 w) :
    Calls Tryd.prog 50 #[.int .u64 u, .int .i64 10] w fun e w' => e = .returned (.string ⟨(decDigits u).toArray⟩) ∧ Below w.heap.size w w' := by
  by_cases h : u < 100
  · exact (fmtu_small u h w).mono fun e w' ⟨he, hw⟩ => ⟨he, hw ▸ Below.refl _ _⟩
  · exact fmtu_big u h hu w htab
theorem print_any (u : Nat) (hu : u < 18446744073709551616) (w : World) (htab : Pow10 w) :
    Calls Tryd.prog 28 #[.int .u64 u] w fun e w' => e = .returned (.string ⟨(decDigits u).toArray⟩) ∧ Below w.heap.size w w' := by
  have HC := Lib.hid (fmt_any u hu w htab)
  clear htab
  go_enter Tryd.func28, Tryd.ntmps28
  go_wp2_with (first
    | go_at_call 43; go_in
    | (go_at_call 50; refine HC.out.mono ?_; rintro e w' ⟨rfl, hb⟩))
  go_ret
  exact ⟨rfl, hb⟩
theorem ret_str {l l' : List UInt8} (h : l = l') : Ending.returned (.string ⟨l.toArray⟩) = Ending.returned (.string ⟨l'.toArray⟩) := by rw [h]
theorem dd70 : decDigits 70 = [55, 48] := by rw [decDigits_two (by omega) (by omega)]; rfl
theorem print70 (w : World) :
    Calls Tryd.prog 28 #[.int .u64 70] w fun e w' => e = .returned (.string ⟨#[55, 48]⟩) ∧ w' = w := by
  have HC := Lib.hid (fmtu_small 70 (by omega) w)
  go_enter Tryd.func28, Tryd.ntmps28
  go_wp2_with (first
    | go_at_call 43; go_in
    | (go_at_call 50; refine HC.out.mono ?_; rintro e w' ⟨rfl, rfl⟩))
  go_ret
  exact ⟨ret_str dd70, rfl⟩

/-- 'string([]byte{x})' at a row of one byte. -/
theorem run_one (b : Nat) (x : UInt8) (W : World) (h : W.cell? ⟨b, 0, none⟩ = some (.int .u8 (x.toNat : Int))) :
    (convert 58 9 (.slice (some ⟨b, 0, none⟩) 1 1)).run Tryd.prog W = .ok (.string ⟨#[x]⟩) W := by
  have := run_convert_bytes_back (P := Tryd.prog) W 58 9 5 ⟨b, 0, none⟩ 1 [x] Tryd.underlying58 Tryd.underlying5 Tryd.underlying9 (fun j hj => by
    obtain rfl : j = 0 := by simp at hj; omega
    exact h)
  exact this
def dgb (d : Nat) : UInt8 := UInt8.ofNat (48 + d)
theorem dig_nat (d : Nat) (h : d < 10) : ((dgb d).toNat : Int) = 48 + (d : Int) := by
  unfold dgb
  rw [UInt8.toNat_ofNat']; omega
theorem bcell {W w1 : World} (hb : Below W.heap.size W w1) : (∀ b o, b < W.heap.size → w1.cell? ⟨b, o, none⟩ = W.cell? ⟨b, o, none⟩) ∧ (∀ b o, b < W.heap.size → w1.frozen? ⟨b, o, none⟩ = W.frozen? ⟨b, o, none⟩) :=
  ⟨fun b o h => hb.cell (p := ⟨b, o, none⟩) h, fun b o h => hb.frozen (p := ⟨b, o, none⟩) h⟩
theorem rprint_one (u : Nat) (hu : u < 10) (w : World) :
    Calls Tryd.prog 29 #[.int .u64 u] w fun e w' => e = .returned (.string ⟨(decDigits u).toArray⟩) ∧ Below w.heap.size w w' := by
  have hcv : ∀ W b, W.cell? ⟨b, 0, none⟩ = some (.int .u8 (48 + (u : Int))) → (convert 58 9 (.slice (some ⟨b, 0, none⟩) 1 1)).run Tryd.prog W = .ok (.string ⟨#[dgb u]⟩) W := fun W b h => run_one b _ W (by rw [dig_nat u hu]; exact h)
  go_enter Tryd.func29, Tryd.ntmps29
  go_wp2
  go_ret
  exact ⟨ret_str (by rw [decDigits_one hu]; rfl), (Below.refl _ _).alloc (Nat.le_refl _) _⟩
theorem below_two {w w1 : World} {o : Obj} (hb : Below (w.alloc o).drew.heap.size (w.alloc o).drew w1) : Below w.heap.size w w1 :=
  (((Below.refl w.heap.size w).alloc (Nat.le_refl _) o).drew).trans (hb.mono (by simp))
theorem ret_cat {l l' : List UInt8} {x : UInt8} (h : l ++ [x] = l') : Ending.returned (.string (⟨l.toArray⟩ ++ ⟨#[x]⟩)) = Ending.returned (.string ⟨l'.toArray⟩) := by
  rw [← h]; congr 2
theorem dd_big {u : Nat} (h : ¬ u < 10) : decDigits (u / 10) ++ [dgb (u % 10)] = decDigits u := by
  conv => rhs; rw [decDigits, dif_neg h]
  rfl
set_option maxHeartbeats 1000000 in
theorem rprint_any : ∀ (u : Nat) (hu : u < 18446744073709551616) (w : World),
    Calls Tryd.prog 29 #[.int .u64 u] w fun e w' => e = .returned (.string ⟨(decDigits u).toArray⟩) ∧ Below w.heap.size w w' := by
  intro u
  induction u using Nat.strongRecOn with
  | ind u ih =>
    intro hu w
    by_cases h : u < 10
    · exact rprint_one u h w
    · have IH := Lib.hid (ih (u / 10) (by omega) (by omega))
      clear ih
      have hcv : ∀ W b, W.cell? ⟨b, 0, none⟩ = some (.int .u8 (48 + (u : Int) % 10)) → (convert 58 9 (.slice (some ⟨b, 0, none⟩) 1 1)).run Tryd.prog W = .ok (.string ⟨#[dgb (u % 10)]⟩) W := fun W b h => run_one b _ W (by rw [dig_nat (u % 10) (by omega)]; exact h)
      have hl1 : (decDigits (u / 10)).length ≤ 20 := by rw [decDigits_length]; exact nDigits_le20 _ (by omega)
      have q0 : (u : Int).tmod 10 = (u : Int) % 10 := IntWalk.rem_in _ _ (by omega)
      have q1 : IntKind.u64.wrap ((u : Int) / 10) = (u : Int) / 10 := IntWalk.u64_in _ ⟨by omega, by omega⟩
      have q2 : IntKind.u64.wrap (48 + (u : Int) % 10) = 48 + (u : Int) % 10 := IntWalk.u64_in _ ⟨by omega, by omega⟩
      have q3 : IntKind.u8.wrap (48 + (u : Int) % 10) = 48 + (u : Int) % 10 := IntWalk.u8_in _ ⟨by omega, by omega⟩
      go_enter Tryd.func29, Tryd.ntmps29
      go_wp2
      go_region_with (first | (go_at_call 29; refine (IH.out _).mono ?_; rintro e w1 ⟨rfl, hb⟩; obtain ⟨hc, hf⟩ := bcell hb))
      all_goals clear q0 q1 q2 q3 hl1 hcv
      all_goals go_wp2
      all_goals go_ret
      all_goals refine ⟨ret_cat (dd_big h), ?_⟩
      · have h1 : Below w.heap.size w w1 := ((Below.refl w.heap.size w).drew).trans hb
        exact h1.alloc h1.size _
      · exact below_two hb
      · exact below_two hb
