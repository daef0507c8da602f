import Derived.Test.YtcgijabnknemiaaGraS
import Derived.Test.YtcgijabnknemiaaGraZj
set_option linter.unusedVariables false
set_option linter.unusedSimpArgs false
namespace Go.Proofs.Ytcgijabnknemiaa
open Go.RowKit
theorem psub_any (n : Int) {v u : Value} {es : List Ed} {ks : List Bool} (w : World) (h : EdgesAt w v es) (hk : BoolsAt w u ks) :
    Calls Try.prog 25 #[.agg #[.int .i64 n, v], u] w fun e w' => ∃ v1 v2, e = .returned (.tuple #[.agg #[.int .i64 (subV n es ks).1, v1], v2]) ∧ EdgesAt w' v1 (subV n es ks).2.1 ∧ IntsAt w' v2 (subV n es ks).2.2 ∧ Below w.heap.size w w' := by
  have HV := Lib.hid (fun W (hB : Below w.heap.size w W) => pvalid_any n W (h.on hB))
  obtain ⟨a, c, rfl, g⟩ := edgesAt_flat h
  obtain ⟨ka, kc, rfl, _, kg⟩ := hk
  unfold subV
  by_cases h1 : rightF n es = 0
  · rw [decide_eq_true h1] at HV
    by_cases h2 : (ks.length : Int) = n
    · rw [if_pos (by simp [subOk, h1, h2])]
      obtain ⟨r1, r2, r3, r4⟩ := right_ends h1
      subst h2
      obtain ⟨kb, ko, rfl, kcell⟩ := kg (by omega)
      rw [Int.toNat_natCast]
      exact psub_right ks.length es a es.length c rfl r3 (by omega) (by omega) (Lib.hid fun e he => ⟨(r4 e he).1, (r4 e he).2.1, (r4 e he).2.2.1, (r4 e he).2.2.2.1⟩) ks kb ko kc rfl w (Lib.hid kcell) (Lib.hid g) HV
    · rw [if_neg (by simp [subOk, h2])]
      exact (psub_no n _ ka ks.length kc true (.inr ⟨rfl, h2⟩) w HV).mono fun e w' ⟨e1, e2⟩ => ⟨_, _, e1, edges_nil _, ints_nil _, e2⟩
  · rw [if_neg (by simp [subOk, h1])]
    rw [decide_eq_false h1] at HV
    exact (psub_no n _ ka ks.length kc false (.inl rfl) w HV).mono fun e w' ⟨e1, e2⟩ => ⟨_, _, e1, edges_nil _, ints_nil _, e2⟩
/-- What the package graph answers, at the landed code. -/
theorem gspec : GSpec where
  right n v es W h := pright_any n W h
  node n v i W := pnode_any n i v W
  edge n a m c i W := pedge_any n a m c i W
  same n1 n2 v1 v2 xs ys W hl h1 h2 := psame_any n1 n2 (by omega) W h1 h2
  clone n v es W hl h := by
    obtain ⟨a, c, rfl, g⟩ := edgesAt_flat h
    refine (pclone_own n es a es.length c rfl (by omega) W g).mono ?_
    rintro e w' ⟨a', c', rfl, hown, hB⟩
    exact ⟨_, rfl, edges_own hown, hB⟩
  rev n v es W h := prev_any n W h
  total n v es W hl h := ptotal_any n W h
  deg n v es W h := pdeg_any n W h
  wth n v es k x W h := pwith_any n k x W h
  sub n v u es ks W h hk := psub_any n W h hk
end Go.Proofs.Ytcgijabnknemiaa
