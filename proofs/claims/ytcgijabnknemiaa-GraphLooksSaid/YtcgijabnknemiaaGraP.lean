import Derived.Test.YtcgijabnknemiaaGraO
set_option linter.unusedVariables false
set_option linter.unusedSimpArgs false
namespace Go.Proofs.Ytcgijabnknemiaa
open Go.RowKit
theorem edges_form {w : World} {v : Value} {es : List Ed} (h : EdgesAt w v es) : ∃ a c, v = .slice a es.length c := by
  obtain ⟨a, c, rfl, _⟩ := h
  exact ⟨a, c, rfl⟩
theorem withV_len (n : Int) (es : List Ed) (k : Int) (x : Nat) : (withV n es k x).2.2.length ≤ es.length := by
  unfold withV
  split
  · simp
  · split
    · simp
    · split
      · rw [List.length_modify]; omega
      · simp
theorem subV_len (n : Int) (es : List Ed) (ks : List Bool) : (subV n es ks).2.1.length ≤ es.length ∧ (subV n es ks).2.2.length ≤ ks.length := by
  unfold subV
  split
  · rename_i h
    simp only [subOk, Bool.and_eq_true, decide_eq_true_eq] at h
    refine ⟨subE_len _ _, ?_⟩
    have h1 := rk_le ks n.toNat
    unfold rk at h1
    simp [natI]
    omega
  · simp
set_option maxHeartbeats 4000000 in
theorem changeslaw_in (G : GSpec) (n : Int) (es : List Ed) (a : Option Addr) (m c : Nat) (hm : es.length = m) (hl : lightB n m = true) (k : Int) (x : Nat) (ka : Option Addr) (km kc : Nat) (ks : List Bool) (hkm : ks.length = km) (hk200 : km ≤ 200) (w : World) (hE : EdgesAt w (.slice a m c) es) (hK : BoolsAt w (.slice ka km kc) ks) :
    Calls Try.prog 5 #[.agg #[.int .i64 n, .slice a m c], .int .i64 k, .int .u64 (x : Int), .slice ka km kc] w fun e w' => e = .returned (.bool true) ∧ Below w.heap.size w w' := by
  have hm3 : m ≤ 300 := by unfold lightB at hl; simp at hl; exact hl.2
  have HL := Lib.hid (fun W => light_any n a m c W)
  rw [hl] at HL
  have HA := Lib.hid (fun W => galive_any G W)
  have HW := Lib.hid (fun W h => G.wth n (.slice a m c) es k x W h)
  have HW2 := Lib.hid (fun W (h : EdgesAt W (.slice a m c) es) => rwith_any n k x W h)
  have HU := Lib.hid (fun W h h2 => G.sub n (.slice a m c) (.slice ka km kc) es ks W h h2)
  have HU2 := Lib.hid (fun W (h : EdgesAt W (.slice a m c) es) (h2 : BoolsAt W (.slice ka km kc) ks) => rsub_any n W h h2)
  have HS1 := Lib.hid (fun W v1 v2 (h1 : EdgesAt W v1 (withV n es k x).2.2) (h2 : EdgesAt W v2 (withV n es k x).2.2) => gsame_any (withV n es k x).2.1 (withV n es k x).2.1 (by have := withV_len n es k x; omega) W h1 h2)
  have HS2 := Lib.hid (fun W v1 v2 (h1 : EdgesAt W v1 (subV n es ks).2.1) (h2 : EdgesAt W v2 (subV n es ks).2.1) => gsame_any (subV n es ks).1 (subV n es ks).1 (by have := (subV_len n es ks).1; omega) W h1 h2)
  have HI := Lib.hid (fun W v1 v2 (h1 : IntsAt W v1 (subV n es ks).2.2) (h2 : IntsAt W v2 (subV n es ks).2.2) => isame_any (by have := (subV_len n es ks).2; omega) W h1 h2)
  rw [decide_eq_true ⟨rfl, rfl⟩] at HS1 HS2
  rw [decide_eq_true rfl] at HI
  generalize (withV n es k x).1 = WF at HW HW2
  generalize (withV n es k x).2.1 = WN at HW HW2 HS1
  generalize (withV n es k x).2.2 = WE at HW HW2 HS1
  generalize (subV n es ks).1 = SN at HU HU2 HS2
  generalize (subV n es ks).2.1 = SE at HU HU2 HS2
  generalize (subV n es ks).2.2 = SI at HU HU2 HI
  have hB0 := (Below.refl w.heap.size w).alloc (Nat.le_refl _) (.cells #[.int .i64 n, .slice a m c] 24)
  have HLS : Hid (LS w w.heap.size n (.slice a m c) es (w.alloc (.cells #[.int .i64 n, .slice a m c] 24))) := Lib.hid ⟨by simp, by simp, Lib.hid (hE.on hB0), Lib.hid hB0⟩
  have HK := Lib.hid hK
  have HB0 := Lib.hid hB0
  have hkk : (km : Int) ≤ 200 := by omega
  clear hB0 hE hm hK hkm
  go_enter Try.func5, Try.ntmps5
  go_wp2_with (first
    | (go_at_call 7; refine (HL.out _).mono ?_; rintro e w1 ⟨rfl, hB⟩; have HK := Lib.hid (HK.out.on (HB0.out)); have HK := Lib.hid (HK.out.on hB); have HLS := Lib.hid (HLS.out.on hB); have b0 := HLS.out.1; have b1 := HLS.out.2.1; clear hB HL)
    | (go_at_call 23; refine (HW.out _ HLS.out.2.2.1.out).mono ?_; rintro e w2 ⟨v2, rfl, h1, hB⟩; obtain ⟨s2, c2, rfl⟩ := edges_form h1; have ha := (Below.refl w2.heap.size w2).alloc (Nat.le_refl _) (.cells #[.int .i64 WN, (.slice s2 WE.length c2)] 24); have HLS := Lib.hid ((HLS.out.on hB).on ha); have HK := Lib.hid ((HK.out.on hB).on ha); have HV2 : Hid (LS w w2.heap.size WN (.slice s2 WE.length c2) WE (w2.alloc (.cells #[.int .i64 WN, (.slice s2 WE.length c2)] 24))) := Lib.hid ⟨by simp, by simp, Lib.hid (h1.on ha), HLS.out.2.2.2⟩; clear b0 b1; have b0 := HLS.out.1; have b1 := HLS.out.2.1; clear hB ha h1; clear HW)
    | (go_at_call 24; refine (HW2.out _ HLS.out.2.2.1.out).mono ?_; rintro e w3 ⟨v3, rfl, h1, hB⟩; obtain ⟨s3, c3, rfl⟩ := edges_form h1; have ha := (Below.refl w3.heap.size w3).alloc (Nat.le_refl _) (.cells #[.int .i64 WN, (.slice s3 WE.length c3)] 24); have HLS := Lib.hid ((HLS.out.on hB).on ha); have HV2 := Lib.hid ((HV2.out.on hB).on ha); have HK := Lib.hid ((HK.out.on hB).on ha); have HV3 : Hid (LS w w3.heap.size WN (.slice s3 WE.length c3) WE (w3.alloc (.cells #[.int .i64 WN, (.slice s3 WE.length c3)] 24))) := Lib.hid ⟨by simp, by simp, Lib.hid (h1.on ha), HLS.out.2.2.2⟩; clear b0 b1; have b0 := HLS.out.1; have b1 := HLS.out.2.1; clear hB ha h1; clear HW2)
    | (go_at_call 25; refine (HU.out _ HLS.out.2.2.1.out HK.out).mono ?_; rintro e w4 ⟨v4, x4, rfl, h1, h2, hB⟩; obtain ⟨s4, c4, rfl⟩ := edges_form h1; have ha := (Below.refl w4.heap.size w4).alloc (Nat.le_refl _) (.cells #[.int .i64 SN, (.slice s4 SE.length c4)] 24); have HLS := Lib.hid ((HLS.out.on hB).on ha); have HV2 := Lib.hid ((HV2.out.on hB).on ha); have HV3 := Lib.hid ((HV3.out.on hB).on ha); have HK := Lib.hid ((HK.out.on hB).on ha); have HV4 : Hid (LS w w4.heap.size SN (.slice s4 SE.length c4) SE (w4.alloc (.cells #[.int .i64 SN, (.slice s4 SE.length c4)] 24))) := Lib.hid ⟨by simp, by simp, Lib.hid (h1.on ha), HLS.out.2.2.2⟩; have HI4 := Lib.hid (h2.on ha); clear b0 b1; have b0 := HLS.out.1; have b1 := HLS.out.2.1; clear hB ha h1 h2; clear HU)
    | (go_at_call 26; refine (HU2.out _ HLS.out.2.2.1.out HK.out).mono ?_; rintro e w5 ⟨v5, x5, rfl, h1, h2, hB⟩; obtain ⟨s5, c5, rfl⟩ := edges_form h1; have ha := (Below.refl w5.heap.size w5).alloc (Nat.le_refl _) (.cells #[.int .i64 SN, (.slice s5 SE.length c5)] 24); have HLS := Lib.hid ((HLS.out.on hB).on ha); have HV2 := Lib.hid ((HV2.out.on hB).on ha); have HV3 := Lib.hid ((HV3.out.on hB).on ha); have HV4 := Lib.hid ((HV4.out.on hB).on ha); have HK := Lib.hid ((HK.out.on hB).on ha); have HI4 := Lib.hid ((HI4.out.on hB).on ha); have HV5 : Hid (LS w w5.heap.size SN (.slice s5 SE.length c5) SE (w5.alloc (.cells #[.int .i64 SN, (.slice s5 SE.length c5)] 24))) := Lib.hid ⟨by simp, by simp, Lib.hid (h1.on ha), HLS.out.2.2.2⟩; have HI5 := Lib.hid (h2.on ha); clear b0 b1; have b0 := HLS.out.1; have b1 := HLS.out.2.1; clear hB ha h1 h2; have p20 := HV2.out.1; have p21 := HV2.out.2.1; have p30 := HV3.out.1; have p31 := HV3.out.2.1; clear HU2)
    | (go_at_call_of 14 (Value.agg #[.int .i64 WN, .slice s2 WE.length c2]); refine (HS1.out _ _ _ HV2.out.2.2.1.out HV3.out.2.2.1.out).mono ?_; rintro e w6 ⟨rfl, hB⟩; have HLS := Lib.hid (HLS.out.on hB); have HV4 := Lib.hid (HV4.out.on hB); have HV5 := Lib.hid (HV5.out.on hB); have HI4 := Lib.hid (HI4.out.on hB); have HI5 := Lib.hid (HI5.out.on hB); clear p20 p21 p30 p31 b0 b1; have p40 := HV4.out.1; have p41 := HV4.out.2.1; have p50 := HV5.out.1; have p51 := HV5.out.2.1; clear hB HS1)
    | (go_at_call 14; refine (HS2.out _ _ _ HV4.out.2.2.1.out HV5.out.2.2.1.out).mono ?_; rintro e w7 ⟨rfl, hB⟩; have HLS := Lib.hid (HLS.out.on hB); have HI4 := Lib.hid (HI4.out.on hB); have HI5 := Lib.hid (HI5.out.on hB); clear hB HS2)
    | (go_at_call 22; refine (HI.out _ _ _ HI4.out HI5.out).mono ?_; rintro e w8 ⟨rfl, hB⟩; have HLS := Lib.hid (HLS.out.on hB); clear hB)
    | (go_at_call 8; refine (HA.out _).mono ?_; rintro e w9 ⟨rfl, hB⟩; have HLS := Lib.hid (HLS.out.on hB); clear hB))
  go_ret
  exact ⟨rfl, HLS.out.2.2.2.out⟩
set_option maxHeartbeats 400000 in
theorem changeslaw_out (G : GSpec) (n : Int) (a : Option Addr) (m c : Nat) (k : Int) (x : Nat) (ka : Option Addr) (km kc : Nat) (h : lightB n m = false ∨ (lightB n m = true ∧ 200 < (km : Int))) (w : World) :
    Calls Try.prog 5 #[.agg #[.int .i64 n, .slice a m c], .int .i64 k, .int .u64 (x : Int), .slice ka km kc] w fun e w' => e = .returned (.bool true) ∧ Below w.heap.size w w' := by
  have HL := Lib.hid (fun W => light_any n a m c W)
  have HA := Lib.hid (fun W => galive_any G W)
  have HB0 := Lib.hid ((Below.refl w.heap.size w).alloc (Nat.le_refl _) (.cells #[.int .i64 n, .slice a m c] 24))
  rcases h with h | ⟨h, h'⟩
  all_goals
    rw [h] at HL
    clear h
    go_enter Try.func5, Try.ntmps5
    go_wp2_with (first
      | (go_at_call 7; refine (HL.out _).mono ?_; rintro e w1 ⟨rfl, hB⟩; have HB1 := Lib.hid (on_trans HB0.out hB); clear hB)
      | (go_at_call 8; refine (HA.out _).mono ?_; rintro e w2 ⟨rfl, hB⟩; have HB2 := Lib.hid (on_trans HB1.out hB); clear hB))
    go_ret
    exact ⟨rfl, HB2.out⟩
theorem changeslaw_any (G : GSpec) (n : Int) {v u : Value} {es : List Ed} {ks : List Bool} (k : Int) (x : Nat) (w : World) (h : EdgesAt w v es) (hk : BoolsAt w u ks) :
    Calls Try.prog 5 #[.agg #[.int .i64 n, v], .int .i64 k, .int .u64 (x : Int), u] w fun e w' => e = .returned (.bool true) ∧ Below w.heap.size w w' := by
  have h' := h
  have hk' := hk
  obtain ⟨a, c, rfl, _⟩ := h
  obtain ⟨ka, kc, rfl, _⟩ := hk
  cases hl : lightB n es.length
  · exact changeslaw_out G n a _ c k x ka _ kc (.inl hl) w
  · by_cases h2 : 200 < (ks.length : Int)
    · exact changeslaw_out G n a _ c k x ka _ kc (.inr ⟨hl, h2⟩) w
    · exact changeslaw_in G n es a _ c rfl hl k x ka _ kc ks rfl (by omega) w h' hk'
end Go.Proofs.Ytcgijabnknemiaa
