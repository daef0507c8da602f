import Derived.Test.YtapfgfpkcnkgbaaDoorRatJ
set_option linter.unusedVariables false
set_option linter.unusedSimpArgs false
namespace Go.Proofs.YtapfgfpkcnkgbaaDoor
open Go.RowKit Go.Sort Go.Lib
/-- Where the first slash lies among the first k bytes, or -1. -/
def At (s : ByteArray) (k : Nat) (a : Int) : Prop := (a = -1 ∧ ∀ j (hj : j < s.size), j < k → s[j] ≠ 47) ∨ (∃ (i : Nat) (hi : i < s.size), i < k ∧ a = i ∧ s[i] = 47 ∧ ∀ j (hj : j < s.size), j < i → s[j] ≠ 47)
theorem At.zero (s : ByteArray) : At s 0 (-1) := Or.inl ⟨rfl, fun j _ h => by omega⟩
theorem At.keep {s : ByteArray} {k : Nat} {a : Int} (h : At s k a) (hk : k < s.size) (hne : s[k] ≠ 47 ∨ 0 ≤ a) : At s (k + 1) a := by
  rcases h with ⟨ha, h⟩ | ⟨i, hi, h1, h2, h3, h4⟩
  · refine Or.inl ⟨ha, fun j hj hjk => ?_⟩
    by_cases e : j = k
    · subst e
      rcases hne with x | x
      · exact x
      · omega
    · exact h j hj (by omega)
  · exact Or.inr ⟨i, hi, by omega, h2, h3, h4⟩
theorem At.hit {s : ByteArray} {k : Nat} {a : Int} (h : At s k a) (hk : k < s.size) (he : s[k] = 47) (ha : a < 0) : At s (k + 1) k := by
  rcases h with ⟨_, h⟩ | ⟨i, hi, h1, h2, h3, h4⟩
  · exact Or.inr ⟨k, hk, by omega, rfl, he, h⟩
  · omega
theorem res_kept0 {w w1 : World} {a b1 c d : Value} {T T' : TypeId} (hb : Below ((w.alloc (.cells #[a, b1] T)).alloc (.cells #[c, d] T')).heap.size ((w.alloc (.cells #[a, b1] T)).alloc (.cells #[c, d] T')) w1) :
    w1.cell? ⟨w.heap.size, 0, none⟩ = some a ∧ w1.cell? ⟨w.heap.size, 1, none⟩ = some b1 ∧ w1.cell? ⟨w.heap.size + 1, 0, none⟩ = some c ∧ w1.cell? ⟨w.heap.size + 1, 1, none⟩ = some d ∧ w1.frozen? ⟨w.heap.size, 0, none⟩ = false ∧ w1.frozen? ⟨w.heap.size, 1, none⟩ = false ∧ Below w.heap.size w w1 :=
  res_kept (n := 0) hb
/-- What becomes of the two pieces' numbers n1, n2 and faults f1, f2. -/
def Ends (N D : Nat) (F : Int) (n1 n2 : Nat) (f1 f2 : Int) : Prop :=
  ((f1 != 0) = true ∧ N = 0 ∧ D = 0 ∧ F = 3) ∨ ((f1 != 0) = false ∧ (f2 != 0) = true ∧ N = 0 ∧ D = 0 ∧ F = 3) ∨ ((f1 != 0) = false ∧ (f2 != 0) = false ∧ okR n1 n2 = false ∧ N = 0 ∧ D = 0 ∧ F = 2) ∨ ((f1 != 0) = false ∧ (f2 != 0) = false ∧ okR n1 n2 = true ∧ N = n1 ∧ D = n2 ∧ F = 0)
set_option maxHeartbeats 1000000 in
theorem rparse_walk (s : ByteArray) (hs : s.size ≤ 100) (N D : Nat) (F : Int) (Hneg : Hid (At s s.size (-1) → N = 0 ∧ D = 0 ∧ F = 3))
    (Hpos : Hid (∀ i : Nat, i < s.size → At s s.size i → ∃ (n1 n2 : Nat) (f1 f2 : Int), Hid (∀ W, Calls Tryd.prog 26 #[.string (s.extract 0 i)] W fun e w' => e = .returned (.tuple #[.int .u64 n1, .int .i64 f1]) ∧ w' = W) ∧
      Hid (∀ W, Calls Tryd.prog 26 #[.string (s.extract (i + 1) s.size)] W fun e w' => e = .returned (.tuple #[.int .u64 n2, .int .i64 f2]) ∧ w' = W) ∧ Ends N D F n1 n2 f1 f2)) (w : World) :
    Calls Tryd.prog 9 #[.string s] w fun e w' => e = .returned (.tuple #[.agg #[.int .u64 N, .int .u64 D], .int .i64 F]) ∧ Below w.heap.size w w' := by
  have HB := Lib.hid (show Below w.heap.size w (w.alloc (.cells #[.int .u64 0, .int .u64 0] 24)) from (Below.refl _ _).alloc (Nat.le_refl _) _)
  go_enter Tryd.func9, Tryd.ntmps9
  go_wp2
  go_loop [4, 5] (fun v i => ∃ (k : Nat) (a : Int), k ≤ s.size ∧ i = .int .i64 k ∧ v = .int .i64 a ∧ -1 ≤ a ∧ a ≤ 100 ∧ Hid (At s k a)) (fun _ i => s.size - (RowKit.intOf i).toNat)
  case atStart => exact ⟨0, -1, Nat.zero_le _, rfl, rfl, by omega, by omega, At.zero s⟩
  case round =>
    obtain ⟨k, a, hk, rfl, rfl, hl, hu, HA⟩ := hrel
    by_cases hlt : k < s.size
    · by_cases hc : s[k] = 47
      · have hcb : ((s[k].toNat : Int) == 47) = true := by rw [hc]; rfl
        have HC := Lib.hid hc
        clear hc
        by_cases ha : a < 0
        · go_wp2
          go_round
          case rel => exact ⟨k + 1, k, by omega, by go_num, rfl, by omega, by omega, HA.out.hit hlt HC.out ha⟩
          case measure => simp [RowKit.intOf]; omega
        · go_wp2
          go_round
          case rel => exact ⟨k + 1, a, by omega, by go_num, rfl, by omega, by omega, HA.out.keep hlt (Or.inr (by omega))⟩
          case measure => simp [RowKit.intOf]; omega
      · have hcb : ((s[k].toNat : Int) == 47) = false := by
          rw [beq_eq_false_iff_ne]; intro x; exact hc (UInt8.toNat_inj.1 (by show s[k].toNat = 47; omega))
        have HC := Lib.hid hc
        clear hc
        go_wp2
        go_round
        case rel => exact ⟨k + 1, a, by omega, by go_num, rfl, by omega, by omega, HA.out.keep hlt (Or.inl HC.out)⟩
        case measure => simp [RowKit.intOf]; omega
    · obtain rfl : k = s.size := by omega
      by_cases ha : a < 0
      · obtain rfl : a = -1 := by omega
        obtain ⟨rfl, rfl, rfl⟩ := Hneg.out HA.out
        clear Hpos
        go_wp2
        refine bodyPost_ret (v := .tuple #[.agg #[.int .u64 0, .int .u64 0], .int .i64 3]) ?_ rfl ⟨rfl, ?_⟩
        · simp [results, Tryd.results9, go_sem]
        · exact HB.out.trans (Below.refl _ _)
      · obtain ⟨i, rfl⟩ : ∃ i : Nat, a = i := ⟨a.toNat, by omega⟩
        have hi : i < s.size := by
          rcases HA.out with ⟨x, _⟩ | ⟨j, hj, _, x, _⟩
          · omega
          · omega
        obtain ⟨n1, n2, f1, f2, P1, P2, HE⟩ := Hpos.out i hi HA.out
        clear Hpos Hneg
        rcases HE with ⟨h1, rfl, rfl, rfl⟩ | ⟨h1, h2, rfl, rfl, rfl⟩ | ⟨h1, h2, hok, rfl, rfl, rfl⟩ | ⟨h1, h2, hok, rfl, rfl, rfl⟩
        · go_wp2_with (first
            | (go_at_call_of 26 (Value.string (s.extract 0 i)); refine (P1.out _).mono ?_; rintro e w' ⟨rfl, rfl⟩)
            | (go_at_call 26; refine (P2.out _).mono ?_; rintro e w' ⟨rfl, rfl⟩))
          refine bodyPost_ret (v := .tuple #[.agg #[.int .u64 0, .int .u64 0], .int .i64 3]) ?_ rfl ⟨rfl, (Below.refl _ _).alloc (Nat.le_refl _) _⟩
          simp [results, Tryd.results9, go_sem]
        · go_wp2_with (first
            | (go_at_call_of 26 (Value.string (s.extract 0 i)); refine (P1.out _).mono ?_; rintro e w' ⟨rfl, rfl⟩)
            | (go_at_call 26; refine (P2.out _).mono ?_; rintro e w' ⟨rfl, rfl⟩))
          refine bodyPost_ret (v := .tuple #[.agg #[.int .u64 0, .int .u64 0], .int .i64 3]) ?_ rfl ⟨rfl, (Below.refl _ _).alloc (Nat.le_refl _) _⟩
          simp [results, Tryd.results9, go_sem]
        · have HR := Lib.hid (rright_any n1 n2)
          rw [hok] at HR
          go_wp2_with (first
            | (go_at_call_of 26 (Value.string (s.extract 0 i)); refine (P1.out _).mono ?_; rintro e w' ⟨rfl, rfl⟩)
            | (go_at_call 26; refine (P2.out _).mono ?_; rintro e w' ⟨rfl, rfl⟩)
            | (go_at_call 11; refine (HR.out _).mono ?_; rintro e w1 ⟨rfl, hb1⟩; have kk := res_kept0 hb1; obtain ⟨c1, c2, c3, c4, g1, g2, hB1⟩ := kk))
          refine bodyPost_ret (v := .tuple #[.agg #[.int .u64 0, .int .u64 0], .int .i64 2]) ?_ rfl ⟨rfl, (hB1.setCell (p := ⟨w.heap.size, 0, none⟩) (Nat.le_refl _) _).setCell (p := ⟨w.heap.size, 1, none⟩) (Nat.le_refl _) _⟩
          simp [results, Tryd.results9, go_sem, c1, c2]
        · have HR := Lib.hid (rright_any N D)
          rw [hok] at HR
          go_wp2_with (first
            | (go_at_call_of 26 (Value.string (s.extract 0 i)); refine (P1.out _).mono ?_; rintro e w' ⟨rfl, rfl⟩)
            | (go_at_call 26; refine (P2.out _).mono ?_; rintro e w' ⟨rfl, rfl⟩)
            | (go_at_call 11; refine (HR.out _).mono ?_; rintro e w1 ⟨rfl, hb1⟩; have kk := res_kept0 hb1; obtain ⟨c1, c2, c3, c4, g1, g2, hB1⟩ := kk))
          refine bodyPost_ret (v := .tuple #[.agg #[.int .u64 N, .int .u64 D], .int .i64 0]) ?_ rfl ⟨rfl, (hB1.setCell (p := ⟨w.heap.size, 0, none⟩) (Nat.le_refl _) _).setCell (p := ⟨w.heap.size, 1, none⟩) (Nat.le_refl _) _⟩
          simp [results, Tryd.results9, go_sem, c1, c2]
theorem occ_at (l : List UInt8) (c : UInt8) (i : Nat) : Lib.occAt l [c] i = if h : i < l.length then c == l[i] else false := by
  unfold Lib.occAt
  split
  · rename_i h
    rw [List.drop_eq_getElem_cons h]
    simp [List.isPrefixOf]
  · rename_i h
    rw [List.drop_eq_nil_of_le (by omega)]
    rfl
theorem occ_s (s : ByteArray) (j : Nat) (hj : j < s.size) (h : s[j] ≠ 47) : Lib.occAt s.data.toList [47] j = false := by
  rw [occ_at]
  have hl : j < s.data.toList.length := by simpa using hj
  rw [dif_pos hl]
  have e : s.data.toList[j] = s[j] := rfl
  rw [e, beq_eq_false_iff_ne]
  exact fun x => h x.symm
theorem idx_none {s : ByteArray} (h : At s s.size (-1)) : Lib.index s.data.toList [47] = -1 := by
  rcases h with ⟨_, h⟩ | ⟨i, _, _, h, _⟩
  · refine Lib.index_none fun j hj => ?_
    by_cases hlt : j < s.size
    · exact occ_s s j hlt (h j hlt hlt)
    · rw [occ_at, dif_neg (by simpa using hlt)]
  · omega
theorem idx_some {s : ByteArray} {i : Nat} (h : At s s.size i) : Lib.index s.data.toList [47] = i := by
  rcases h with ⟨h, _⟩ | ⟨j, hj, _, e, h1, h2⟩
  · omega
  · obtain rfl : i = j := by omega
    have hl : i < s.data.toList.length := by simpa using hj
    refine Lib.index_first (Nat.le_of_lt hl) ?_ fun k hk => occ_s s k (by omega) (h2 k (by omega) hk)
    rw [occ_at, dif_pos hl]
    have e : s.data.toList[i] = s[i] := rfl
    rw [e, h1]; rfl
theorem ends_any (a b : List UInt8) : Ends (prN a b) (prD a b) (prF a b) (parseV a) (parseV b) (parseF a) (parseF b) := by
  unfold Ends prN prD prF
  by_cases h1 : parseF a = 0
  · by_cases h2 : parseF b = 0
    · cases h3 : okR (parseV a) (parseV b)
      · exact Or.inr (Or.inr (Or.inl ⟨bne_of h1, bne_of h2, rfl, if_neg (fun x => by simp at x), if_neg (fun x => by simp at x), by rw [if_pos ⟨h1, h2⟩, if_neg (by simp)]⟩))
      · exact Or.inr (Or.inr (Or.inr ⟨bne_of h1, bne_of h2, rfl, if_pos ⟨h1, h2, rfl⟩, if_pos ⟨h1, h2, rfl⟩, by rw [if_pos ⟨h1, h2⟩, if_pos rfl]⟩))
    · exact Or.inr (Or.inl ⟨bne_of h1, bne_not h2, if_neg (fun x => h2 x.2.1), if_neg (fun x => h2 x.2.1), if_neg (fun x => h2 x.2)⟩)
  · exact Or.inl ⟨bne_not h1, if_neg (fun x => h1 x.1), if_neg (fun x => h1 x.1), if_neg (fun x => h1 x.1)⟩
theorem rprat_parse (s : ByteArray) (hs : s.size ≤ 100) (w : World) :
    Calls Tryd.prog 9 #[.string s] w fun e w' => e = .returned (.tuple #[.agg #[.int .u64 (prN (before s.data.toList) (behind s.data.toList) : Nat), .int .u64 (prD (before s.data.toList) (behind s.data.toList) : Nat)], .int .i64 (prF (before s.data.toList) (behind s.data.toList))]) ∧ Below w.heap.size w w' := by
  refine rparse_walk s hs _ _ _ (Lib.hid fun h => ?_) (Lib.hid fun i hi h => ?_) w
  · have hx := idx_none h
    have e : Lib.cut s.data.toList [47] = (s.data.toList, [], false) := by
      unfold Lib.cut
      rw [hx, if_neg (by omega)]
    have e2 : behind s.data.toList = [] := by unfold behind; rw [e]
    rw [e2]
    have hf : parseF [] = 3 := rfl
    unfold prN prD prF
    rw [hf]
    exact ⟨if_neg (fun x => by omega), if_neg (fun x => by omega), if_neg (fun x => by omega)⟩
  · obtain ⟨e1, e2, _⟩ := Lib.cutB_hit s ⟨#[47]⟩ i (idx_some h)
    have d1 : (s.extract 0 i).data.toList = before s.data.toList := by rw [← e1]; rfl
    have d2 : (s.extract (i + 1) s.size).data.toList = behind s.data.toList := by
      rw [show i + 1 = i + (ByteArray.mk #[47]).size from rfl, ← e2]; rfl
    have P1 := fun W => rparse_any (s.extract 0 i) (by rw [ByteArray.size_extract]; unfold maxLen; omega) W
    have P2 := fun W => rparse_any (s.extract (i + 1) s.size) (by rw [ByteArray.size_extract]; unfold maxLen; omega) W
    rw [d1] at P1
    rw [d2] at P2
    exact ⟨_, _, _, _, Lib.hid P1, Lib.hid P2, ends_any _ _⟩
