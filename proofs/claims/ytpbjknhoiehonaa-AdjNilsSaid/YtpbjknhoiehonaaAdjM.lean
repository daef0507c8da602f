import Derived.Test.YtpbjknhoiehonaaAdjL
import Derived.Test.YtpbjknhoiehonaaHeld
import Derived.Deep.RegionLaw
set_option linter.unusedVariables false
set_option linter.unusedSimpArgs false
namespace Go.Proofs.Ytpbjknhoiehonaa
open Go.RowKit
attribute [local go_sem ↓] Go.wp_at_zero Go.wp_at_succ
theorem EdgesLow.on {W w1 : World} {B : Nat} (hb : Below W.heap.size W w1) {v : Value} {es : List Ed} (h : EdgesLow W B v es) : EdgesLow w1 B v es := by
  obtain ⟨a, c, h1, h2, h3⟩ := h
  refine ⟨a, c, h1, h2, fun h0 => ?_⟩
  obtain ⟨b, off, e1, e2, e3⟩ := h3 h0
  exact ⟨b, off, e1, e2, fun j e he => ⟨cell_on hb (e3 j e he).1, cell_on hb (e3 j e he).2.1, cell_on hb (e3 j e he).2.2⟩⟩
theorem EdgesAt.low {W : World} {v : Value} {es : List Ed} (h : EdgesAt W v es) : EdgesLow W W.heap.size v es := by
  obtain ⟨a, c, h1, h2, h3⟩ := h
  refine ⟨a, c, h1, h2, fun h0 => ?_⟩
  obtain ⟨b, off, e1, e2⟩ := h3 h0
  exact ⟨b, off, e1, World.block_lt_of_cell? W _ (e2 0 _ (List.getElem?_eq_getElem h0)).1, e2⟩
/-- Clone, of a row that reads as these edges: the copy lies in the call's own memory. -/
theorem pclone_low (n : Int) (es : List Ed) (a : Option Addr) (m c : Nat) (hm : es.length = m) (hl : m ≤ 1000000) (w : World) (h : EdgesAt w (.slice a m c) es) :
    Calls Try.prog 23 #[.agg #[.int .i64 n, .slice a m c]] w fun e w' => ∃ a' c', e = .returned (.agg #[.int .i64 n, .slice a' m c']) ∧ EdgesLow w' w'.heap.size (.slice a' m c') es ∧ Below w.heap.size w w' := by
  obtain ⟨a1, c1, e1, g⟩ := edgesAt_flat h
  injection e1 with e1 e2 e3
  subst e1
  rw [← e2] at g
  refine (pclone_own n es a m c hm hl w g).mono ?_
  rintro e w' ⟨a', c', rfl, hown, hB⟩
  have h2 := (edges_own (hm ▸ hown)).low
  rw [hm] at h2
  exact ⟨a', c', rfl, h2, hB⟩
/-- What the loads of New's region read. -/
def NB (w0 : World) (G : Nat) (n : Int) (a : Option Addr) (m c : Nat) (es : List Ed) (v1 v2 : Value) (D1 D2 : List Int) (W : World) : Prop := W.cell? ⟨G, 0, none⟩ = some (.int .i64 n) ∧ W.cell? ⟨G, 1, none⟩ = some (.slice a m c) ∧ Hid (EdgesAt W (.slice a m c) es) ∧ Hid (IntsAt W v1 D1) ∧ Hid (IntsAt W v2 D2) ∧ Hid (Below w0.heap.size w0 W)
theorem NB.on {w0 : World} {G : Nat} {n : Int} {a : Option Addr} {m c : Nat} {es : List Ed} {v1 v2 : Value} {D1 D2 : List Int} {W w1 : World} (hb : Below W.heap.size W w1) (h : NB w0 G n a m c es v1 v2 D1 D2 W) : NB w0 G n a m c es v1 v2 D1 D2 w1 :=
  ⟨cell_on hb h.1, cell_on hb h.2.1, Lib.hid (h.2.2.1.out.on hb), Lib.hid (h.2.2.2.1.out.on hb), Lib.hid (h.2.2.2.2.1.out.on hb), Lib.hid (on_trans h.2.2.2.2.2.out hb)⟩
/-- What a round of New's loop leaves as it lies. -/
def LB (w : World) (P N m : Nat) (ae : Option Addr) (ce C1 C2 B : Nat) (es : List Ed) (W : World) : Prop := W.cell? ⟨P, 0, none⟩ = some (.int .i64 (N : Int)) ∧ W.cell? ⟨P, 1, none⟩ = some (.slice ae m ce) ∧ W.cell? ⟨P, 2, none⟩ = some (.slice (some ⟨C1, 0, none⟩) N N) ∧ W.cell? ⟨P, 3, none⟩ = some (.slice (some ⟨C2, 0, none⟩) N N) ∧ EdgesLow W B (.slice ae m ce) es ∧ Below w.heap.size w W
theorem LB.on {w : World} {P N m : Nat} {ae : Option Addr} {ce C1 C2 B : Nat} {es : List Ed} {W w1 : World} (hb : Below W.heap.size W w1) (h : LB w P N m ae ce C1 C2 B es W) : LB w P N m ae ce C1 C2 B es w1 :=
  ⟨cell_on hb h.1, cell_on hb h.2.1, cell_on hb h.2.2.1, cell_on hb h.2.2.2.1, h.2.2.2.2.1.on hb, on_trans h.2.2.2.2.2 hb⟩
theorem LB.set {w : World} {P N m : Nat} {ae : Option Addr} {ce C1 C2 B : Nat} {es : List Ed} {W : World} (h : LB w P N m ae ce C1 C2 B es W) {q : Addr} (v : Value) (h1 : B ≤ q.block) (h2 : q.block ≠ P) (h3 : w.heap.size ≤ B) : LB w P N m ae ce C1 C2 B es (W.setCell q v) := by
  have e : ∀ b o, q.block ≠ b → (W.setCell q v).cell? ⟨b, o, none⟩ = W.cell? ⟨b, o, none⟩ := fun b o hq => World.cell?_setCell_other _ _ _ _ (fun e => hq (by rw [e]))
  refine ⟨by rw [e _ _ h2]; exact h.1, by rw [e _ _ h2]; exact h.2.1, by rw [e _ _ h2]; exact h.2.2.1, by rw [e _ _ h2]; exact h.2.2.2.1, ?_, h.2.2.2.2.2.setCell (by omega) _⟩
  obtain ⟨a, c, e1, e2, e3⟩ := h.2.2.2.2.1
  refine ⟨a, c, e1, e2, fun h0 => ?_⟩
  obtain ⟨b, off, r1, r2, r3⟩ := e3 h0
  exact ⟨b, off, r1, r2, fun j x hx => ⟨by rw [e _ _ (by omega)]; exact (r3 j x hx).1, by rw [e _ _ (by omega)]; exact (r3 j x hx).2.1, by rw [e _ _ (by omega)]; exact (r3 j x hx).2.2⟩⟩
theorem one_new (wb wa : World) (k : Int) (T : TypeId) (h : wb = wa.alloc (.cells #[.int .i64 k] T)) : ∀ (j : Nat) u, [Value.int .i64 k][j]? = some u → wb.cell? ((⟨wa.heap.size, 0, none⟩ : Addr).add j) = some u := by
  subst h
  intro j u hj
  match j, hj with
  | 0, hj => simp at hj; subst hj; show World.cell? _ ⟨wa.heap.size, 0, none⟩ = _; rw [World.cell?_alloc_at _ _ _ _ (by simp)]; rfl
theorem one_new2 (wa : World) (k : Int) (T : TypeId) : ∀ (j : Nat) u, [Value.int .i64 k][j]? = some u → ((wa.alloc (.cells #[.int .i64 k] T)).drew).cell? ((⟨wa.heap.size, 0, none⟩ : Addr).add j) = some u := fun j u hj => cell_on (Below.refl _ _).drew (one_new _ wa k T rfl j u hj)
theorem set1_other (w : World) (b o : Nat) (v : Value) (q : Addr) {u : Value} (h : b ≠ q.block) (hc : w.cell? q = some u) : (w.setCells b o [v]).cell? q = some u :=
  (World.cell?_setCell_other w ⟨b, o, none⟩ q v (fun e => h (congrArg Addr.block e))).trans hc
theorem set1_frozen (w : World) (b o : Nat) (v : Value) (q : Addr) (hc : w.frozen? q = false) : (w.setCells b o [v]).frozen? q = false := by
  show (w.setCell ⟨b, o, none⟩ v).frozen? q = false
  rw [World.frozen?_setCell]; exact hc
theorem row_room {back : Bool} {es : List Ed} {k v : Nat} {e : Ed} (he : es[k]? = some e) (hv : endE back e = (v : Int)) : (rowK back (v : Int) es k).length < dd back es v := by
  have hk := (List.getElem?_eq_some_iff.1 he).1
  have h1 := rowK_yes (v := (v : Int)) he ((outB_end back v e).2 hv)
  have h2 := rowK_mono back (v : Int) es (show k + 1 ≤ es.length by omega) (Nat.le_refl _)
  rw [h1, List.length_append, List.length_singleton] at h2
  exact h2
set_option maxHeartbeats 4000000 in
theorem anew_right (N : Nat) (es : List Ed) (a : Option Addr) (m c : Nat) (hm : es.length = m) (hr : rightF N es = 0) (w : World) (hE : EdgesAt w (.slice a m c) es) :
    Calls Try.prog 8 #[.agg #[.int .i64 (N : Int), .slice a m c]] w fun e w' => ∃ p, e = .returned (.tuple #[.pointer (some p), .int .i64 0]) ∧ AHeld w' w'.heap.size p N es ∧ Below w.heap.size w w' := by
  obtain ⟨r1, r2, r3, r4⟩ := right_ends hr
  have HR := Lib.hid (fun W (h : EdgesAt W (.slice a m c) es) => pright_any N W h)
  rw [hr] at HR
  have HD := Lib.hid (fun W (h : EdgesAt W (.slice a m c) es) => pdeg_any N W h)
  unfold degV at HD
  rw [if_pos hr, if_pos hr] at HD
  rw [show (N : Int).toNat = N from rfl] at HD
  have HC := Lib.hid (fun W (h : EdgesAt W (.slice a m c) es) => pclone_low N es a m c hm (by omega) W h)
  have ha1 := pre_all false N es fun e he => ⟨(r4 e he).1, (r4 e he).2.1⟩
  have ha2 := pre_all true N es fun e he => ⟨(r4 e he).2.2.1, (r4 e he).2.2.2.1⟩
  rw [hm] at ha1 ha2
  have HR1 := Lib.hid (fun W v (h : IntsAt W v (natI ((List.range N).map (dd false es)))) => rows_any (dd false es) N m ha1 (by omega) (by omega) (by omega) W h)
  have HR2 := Lib.hid (fun W v (h : IntsAt W v (natI ((List.range N).map (dd true es)))) => rows_any (dd true es) N m ha2 (by omega) (by omega) (by omega) W h)
  rw [show cntL N (fun x => x.f) es = natI ((List.range N).map (dd false es)) from dd_list false es N, show cntL N (fun x => x.t) es = natI ((List.range N).map (dd true es)) from dd_list true es N] at HD
  have hB0 := (Below.refl w.heap.size w).alloc (Nat.le_refl _) (.cells #[.int .i64 (N : Int), .slice a m c] 24)
  have HB0 := Lib.hid hB0
  have HE0 := Lib.hid (hE.on hB0)
  have hc0 := agg2 w (.int .i64 (N : Int)) (.slice a m c) 24
  generalize natI ((List.range N).map (dd false es)) = D1 at *
  generalize natI ((List.range N).map (dd true es)) = D2 at *
  clear hB0
  go_enter Try.func8, Try.ntmps8
  go_wp2_with (first
    | (go_at_call 21; refine (HR.out _ HE0.out).mono ?_; rintro e w1 ⟨rfl, hB⟩; have HB1 := Lib.hid (on_trans HB0.out hB); have HE1 := Lib.hid (HE0.out.on hB); have b0 := cell_on hB hc0.1; have b1 := cell_on hB hc0.2; clear hB HR HE0 HB0)
    | (go_at_call 22; refine (HD.out _ HE1.out).mono ?_; rintro e w2 ⟨v1, v2, rfl, hv1, hv2, hB⟩; have HNB : NB w w.heap.size N a m c es v1 v2 D1 D2 w2 := ⟨cell_on hB b0, cell_on hB b1, Lib.hid (HE1.out.on hB), Lib.hid hv1, Lib.hid hv2, Lib.hid (on_trans HB1.out hB)⟩; clear hB HD HE1 HB1 b0 b1 hv1 hv2))
  have HNB2 : NB w w.heap.size N a m c es v1 v2 D1 D2 w2.drew := HNB.on (Below.refl _ _).drew
  have HEw := Lib.hid hE
  have HPA1 := Lib.hid ha1
  have HPA2 := Lib.hid ha2
  clear hc0 hE hr
  go_region_held3 (fun w' => w'.cell? ⟨w.heap.size, 0, none⟩ = some (.int .i64 (N : Int)) ∧ w'.cell? ⟨w.heap.size, 1, none⟩ = some (.slice a m c) ∧ Hid (EdgesAt w' (.slice a m c) es) ∧ Hid (IntsAt w' v1 D1) ∧ Hid (IntsAt w' v2 D2) ∧ Hid (Below w.heap.size w w'))
    (first
      | exact HNB2
      | exact NB.on hB ‹_›
      | exact NB.on ((Below.refl _ _).alloc (Nat.le_refl _) _) ‹_›)
    (first
      | (go_at_call 23; refine (HC.out _ (show NB w w.heap.size N a m c es v1 v2 D1 D2 _ from ‹_›).2.2.1.out).mono ?_; rintro e w4 ⟨ae, ce, rfl, hE4, hB⟩; have HE4 := Lib.hid hE4; have HS4 := Lib.hid (Nat.le_trans HNB2.2.2.2.2.2.out.size hB.size); clear HC hE4)
      | (go_at_call 24; refine (HR1.out _ _ (show NB w w.heap.size N a m c es v1 v2 D1 D2 _ from ‹_›).2.2.2.1.out).mono ?_; rintro e w5 ⟨C1, X1, rfl, hI1, hX1, hC1, hZ1, hB⟩; have HI1 := Lib.hid hI1; have HE4 := Lib.hid (HE4.out.on hB); have HX1 := Lib.hid (And.intro hX1 (And.intro hC1 hZ1)); clear HR1 hI1 hX1 hC1 hZ1)
      | (go_at_call 24; refine (HR2.out _ _ (show NB w w.heap.size N a m c es v1 v2 D1 D2 _ from ‹_›).2.2.2.2.1.out).mono ?_; rintro e w6 ⟨C2, X2, rfl, hI2, hX2, hC2, hZ2, hB⟩; have HI2 := Lib.hid hI2; have HI1 := Lib.hid (HI1.out.on hB); have HE4 := Lib.hid (HE4.out.on hB); have HX2 := Lib.hid (And.intro hX2 (And.intro hC2 hZ2)); clear HR2 hI2 hX2 hC2 hZ2))
  have hN7 := (show NB w w.heap.size N a m c es v1 v2 D1 D2 (w6.alloc _) from ‹_›)
  have hsz := hN7.2.2.2.2.2.out
  obtain ⟨P, hP⟩ : ∃ P, w6.heap.size = P := ⟨_, rfl⟩
  obtain ⟨B, hB4⟩ : ∃ B, w4.heap.size = B := ⟨_, rfl⟩
  have hord : w.heap.size ≤ B ∧ B ≤ X1 ∧ X1 < C1 ∧ C1 < X2 ∧ X2 < C2 ∧ C2 < P := by
    have := HX1.out
    have := HX2.out
    have h4 := HS4.out
    omega
  have HLB : Hid (LB w P N m ae ce C1 C2 B es (w6.alloc (.cells #[.int .i64 (N : Int), .slice ae m ce, .slice (some ⟨C1, 0, none⟩) N N, .slice (some ⟨C2, 0, none⟩) N N] 55))) := Lib.hid (by
    subst hP hB4
    exact ⟨by simp, by simp, by simp, by simp, HE4.out.on ((Below.refl _ _).alloc (Nat.le_refl _) _), hsz⟩)
  have HJ1 := Lib.hid (HI1.out.on ((Below.refl w6.heap.size w6).alloc (Nat.le_refl _) (.cells #[.int .i64 (N : Int), .slice ae m ce, .slice (some ⟨C1, 0, none⟩) N N, .slice (some ⟨C2, 0, none⟩) N N] 55)))
  have HJ2 := Lib.hid (HI2.out.on ((Below.refl w6.heap.size w6).alloc (Nat.le_refl _) (.cells #[.int .i64 (N : Int), .slice ae m ce, .slice (some ⟨C1, 0, none⟩) N N, .slice (some ⟨C2, 0, none⟩) N N] 55)))
  have b0 := hN7.1
  have b1 := hN7.2.1
  have hs7 : (w6.alloc (.cells #[.int .i64 (N : Int), .slice ae m ce, .slice (some ⟨C1, 0, none⟩) N N, .slice (some ⟨C2, 0, none⟩) N N] 55)).heap.size = P + 1 := by rw [← hP]; simp
  rw [hP]
  obtain ⟨w7, hw7⟩ : ∃ w7, w6.alloc (.cells #[.int .i64 (N : Int), .slice ae m ce, .slice (some ⟨C1, 0, none⟩) N N, .slice (some ⟨C2, 0, none⟩) N N] 55) = w7 := ⟨_, rfl⟩
  rw [hw7] at HLB HJ1 HJ2 b0 b1 hs7 ⊢
  clear hN7 hsz HI1 HI2 HX1 HX2 hP hB4 HE4 HNB HNB2 HS4 hw7
  clear hB
  have hs8 := Lib.hid hs7
  clear hs7
  go_wp2
  have HOR := Lib.hid hord
  have HB1 := Lib.hid b1
  clear hord b0 b1
  go_loopw [34] (fun i wr => ∃ k : Nat, k ≤ m ∧ i = .int .i64 k ∧ Hid (LB w P N m ae ce C1 C2 B es wr) ∧ Hid (RowsI wr C1 X1 N m (dd false es) (fun u => rowK false u es k)) ∧ Hid (RowsI wr C2 X2 N m (dd true es) (fun u => rowK true u es k)) ∧ Hid (P < wr.heap.size)) (fun i _ => m - (RowKit.intOf i).toNat)
  case atStart => exact ⟨0, by omega, rfl, HLB, Lib.hid (by simpa [rowK] using HJ1.out), Lib.hid (by simpa [rowK] using HJ2.out), Lib.hid (by rw [hs8.out]; omega)⟩
  case round =>
    clear HLB HJ1 HJ2 hs8 HB1
    obtain ⟨k, hk, rfl, HL, HI1, HI2, HS⟩ := hrel
    by_cases hkm : k < m
    · have hE1 := HEw.out.on HL.out.2.2.2.2.2
      obtain ⟨a1, c1, ea, _, hg⟩ := hE1
      obtain ⟨b, bo, rfl, hc⟩ := hg (by omega)
      injection ea with ea1 ea2 ea3
      subst ea1
      have he0 : es[k]? = some (es[k]'(by omega)) := List.getElem?_eq_getElem (by omega)
      obtain ⟨⟨f, t, x⟩, he⟩ : ∃ e, es[k]'(by omega) = e := ⟨_, rfl⟩
      rw [he] at he0
      obtain ⟨e1, e2, e3⟩ := hc k _ he0
      simp only at e1 e2 e3
      obtain ⟨n1, n2, n3, n4, _, _, _⟩ := r4 ⟨f, t, x⟩ (he ▸ List.getElem_mem _)
      simp only at n1 n2 n3 n4
      obtain ⟨F, rfl⟩ : ∃ F : Nat, f = F := ⟨f.toNat, by omega⟩
      obtain ⟨T, rfl⟩ : ∃ T : Nat, t = T := ⟨t.toNat, by omega⟩
      have hF : F < N := by omega
      have hT : T < N := by omega
      have hk0 : (0 : Int) ≤ (k : Int) := Int.natCast_nonneg _
      have hk1 : (k : Int) < (m : Int) := by omega
      have HG := Lib.hid he0
      clear he0 he hc hg ea2 ea3 n1 n2 n3 n4 ha1 ha2
      obtain ⟨H, hH⟩ : ∃ H, wr.heap.size = H := ⟨_, rfl⟩
      obtain ⟨wa, hwa⟩ : ∃ wa, wr.alloc (.cells #[.int .i64 (F : Int), .int .i64 (T : Int), .int .u64 (x : Int)] 36) = wa := ⟨_, rfl⟩
      have hba : Below wr.heap.size wr wa := by rw [← hwa]; exact (Below.refl _ _).alloc (Nat.le_refl _) _
      have HLa := Lib.hid (HL.out.on hba)
      have HA1 := Lib.hid (HI1.out.on hba)
      have HA2 := Lib.hid (HI2.out.on hba)
      have hg1 : wa.cell? ⟨H, 0, none⟩ = some (.int .i64 (F : Int)) := by rw [← hwa, ← hH]; simp
      have hg2 : wa.cell? ⟨H, 1, none⟩ = some (.int .i64 (T : Int)) := by rw [← hwa, ← hH]; simp
      have hsa : wa.heap.size = H + 1 := by rw [← hwa]; simp [hH]
      have hPH : P < H := by have := HS.out; omega
      have hk' : k ≤ es.length := by omega
      obtain ⟨o1, o2, o3, o4, o5, o6⟩ := HOR.out
      have hend : True := trivial
      obtain ⟨i0, hi, hz0, hz1, hz2⟩ := info_parts infoInt
      have hr1 : (rowK false (F : Int) es k).length < dd false es F := row_room HG.out rfl
      have hall1 := HPA1.out
      have hlen1 : ∀ u, u < N → (rowK false u es k).length ≤ dd false es u := fun u _ => rowK_mono false u es hk' (Nat.le_refl _)
      have hsum1 : pre (dd false es) F + dd false es F ≤ m := by rw [← hall1]; exact pre_mono (dd false es) (show F + 1 ≤ N from hF)
      have hrow1 := HA1.out.1 F hF
      rw [offC_pos (by omega)] at hrow1
      have hbA : Below wa.heap.size wa (wa.alloc (.cells #[.int .i64 (k : Int)] 3)) := (Below.refl _ _).alloc (Nat.le_refl _) _
      have hbb : Below wa.heap.size wa ((wa.alloc (.cells #[.int .i64 (k : Int)] 3)).drew) := hbA.drew
      have HBB1 := Lib.hid (HA1.out.on hbA)
      have HPU1 := Lib.hid (HBB1.out.push (by omega) (Nat.le_of_eq hall1) hF hlen1 hr1 k (fun u => rowK false u es (k + 1)) (rowK_yes HG.out (by simp [outB])) (fun u hu => rowK_no HG.out (by simp [outB] <;> omega)))
      have ho1 := offC_pos (d := dd false es) (u := F) (by omega)
      try dsimp only at HPU1
      rw [ho1] at HPU1
      have hsp1 := HBB1.out.2.2 (pre (dd false es) F + (rowK false (F : Int) es k).length) (by omega)
      obtain ⟨p1, hp1⟩ : ∃ p, pre (dd false es) F = p := ⟨_, rfl⟩
      obtain ⟨l1, hl1⟩ : ∃ l, (rowK false (F : Int) es k).length = l := ⟨_, rfl⟩
      obtain ⟨q1, hq1⟩ : ∃ q, dd false es F = q := ⟨_, rfl⟩
      rw [hp1, hl1, hq1] at hrow1 HPU1
      rw [hp1, hl1] at hsp1
      have hroom : l1 + 1 ≤ q1 := by omega
      have g0 := Lib.hid (cell_on (Below.refl wa.heap.size wa).drew HLa.out.2.2.1)
      have g1 := Lib.hid (cell_on (Below.refl wa.heap.size wa).drew hg1)
      have g2 := Lib.hid (cell_on (Below.refl wa.heap.size wa).drew hrow1.1)
      have k0 := Lib.hid (cell_on hbb HLa.out.2.2.1)
      have k1 := Lib.hid (cell_on hbb hg1)
      have k2 := Lib.hid (cell_on hbb hrow1.1)
      have j0 := Lib.hid (set1_other _ X1 (p1 + l1 * 1) (.int .i64 (k : Int)) _ (by simp <;> omega) k0.out)
      have j1 := Lib.hid (set1_other _ X1 (p1 + l1 * 1) (.int .i64 (k : Int)) _ (by simp <;> omega) k1.out)
      have j2 := Lib.hid (set1_other _ X1 (p1 + l1 * 1) (.int .i64 (k : Int)) _ (by simp <;> omega) k2.out)
      have j3 := cell_on hbA hrow1.1
      have j4 := frozen_on hbA hrow1.1 hrow1.2
      have hnew := Lib.hid (one_new2 wa (k : Int) 3)
      rw [hsa] at hnew
      have hspare : Hid (∀ j, j < [Value.int .i64 (k : Int)].length → (((wa.alloc (.cells #[.int .i64 (k : Int)] 3)).drew).cell? ⟨X1, p1 + l1 * 1 + j, none⟩).isSome = true ∧ ((wa.alloc (.cells #[.int .i64 (k : Int)] 3)).drew).frozen? ⟨X1, p1 + l1 * 1 + j, none⟩ = false) := Lib.hid fun j hj => by
        obtain rfl : j = 0 := by simpa using hj
        rw [Nat.mul_one, Nat.add_zero]
        obtain ⟨⟨y, hy⟩, hy2⟩ := hsp1
        have hd := (Below.refl (wa.alloc (.cells #[.int .i64 (k : Int)] 3)).heap.size (wa.alloc (.cells #[.int .i64 (k : Int)] 3))).drew
        exact ⟨by rw [cell_on hd hy]; rfl, frozen_on hd hy hy2⟩
      have hdr : Below ((((wa.alloc (.cells #[.int .i64 (k : Int)] 3)).setCell ⟨X1, p1 + l1, none⟩ (.int .i64 (k : Int))).setCell ⟨C1, F, none⟩ (.slice (some ⟨X1, p1, none⟩) (l1 + 1) q1))).heap.size ((((wa.alloc (.cells #[.int .i64 (k : Int)] 3)).setCell ⟨X1, p1 + l1, none⟩ (.int .i64 (k : Int))).setCell ⟨C1, F, none⟩ (.slice (some ⟨X1, p1, none⟩) (l1 + 1) q1))) ((((wa.alloc (.cells #[.int .i64 (k : Int)] 3)).setCell ⟨X1, p1 + l1, none⟩ (.int .i64 (k : Int))).setCell ⟨C1, F, none⟩ (.slice (some ⟨X1, p1, none⟩) (l1 + 1) q1))).drew := (Below.refl _ _).drew
      have HLn := Lib.hid ((((HLa.out.on hbA).set (q := ⟨X1, p1 + l1, none⟩) (.int .i64 (k : Int)) (by simp <;> omega) (by simp <;> omega) (by omega)).set (q := ⟨C1, F, none⟩) (.slice (some ⟨X1, p1, none⟩) (l1 + 1) q1) (by simp <;> omega) (by simp <;> omega) (by omega)).on hdr)
      have HOn := Lib.hid ((((HA2.out.on hbA).other ⟨X1, p1 + l1, none⟩ (.int .i64 (k : Int)) (by simp <;> omega) (by simp <;> omega)).other ⟨C1, F, none⟩ (.slice (some ⟨X1, p1, none⟩) (l1 + 1) q1) (by simp <;> omega) (by simp <;> omega)).on hdr)
      have HPn := Lib.hid (HPU1.out.on hdr)
      have hgn := Lib.hid (cell_on hdr ((World.cell?_setCell_other _ ⟨C1, F, none⟩ _ (.slice (some ⟨X1, p1, none⟩) (l1 + 1) q1) (by simp <;> omega)).trans ((World.cell?_setCell_other _ ⟨X1, p1 + l1, none⟩ _ (.int .i64 (k : Int)) (by simp <;> omega)).trans (cell_on hbA hg2))))
      have hsn : Hid (((((wa.alloc (.cells #[.int .i64 (k : Int)] 3)).setCell ⟨X1, p1 + l1, none⟩ (.int .i64 (k : Int))).setCell ⟨C1, F, none⟩ (.slice (some ⟨X1, p1, none⟩) (l1 + 1) q1))).drew.heap.size = H + 2) := Lib.hid (by simp [hsa])
      have hF0 : (0 : Int) ≤ (F : Int) := Int.natCast_nonneg _
      have hF1 : (F : Int) < (N : Int) := by omega
      clear hba HL HI1 HI2 HS
      go_wp2
      refine region_till (fun w' => w'.cell? ⟨P, 2, none⟩ = some (.slice (some ⟨C1, 0, none⟩) N N) ∧ w'.cell? ⟨H, 0, none⟩ = some (.int .i64 (F : Int)) ∧ w'.cell? ⟨C1, F, none⟩ = some (.slice (some ⟨X1, p1, none⟩) l1 q1)) 18 (by kernel_rfl) ⟨g0.out, g1.out, g2.out⟩ (fun hS0 => ?_)
      refine wpTill_take (i := 0) (v := .pointer (some ⟨P, 0, none⟩)) rfl (by kernel_rfl) (by kernel_rfl) (by kernel_rfl) (by kernel_rfl) (by kernel_rfl) (fun _ _ _ h => h) (Or.inl ⟨by kernel_rfl, fun w' hS => by obtain ⟨s0, s1, s2⟩ := hS; go_simp⟩) hS0 ?_
      simp only [Act.put, List.setIfInBounds_toArray, List.set_cons_zero, List.set_cons_succ]
      refine wpTill_take (i := 1) (v := .pointer (some ⟨P, 0, none⟩)) rfl (by kernel_rfl) (by kernel_rfl) (by kernel_rfl) (by kernel_rfl) (by kernel_rfl) (fun _ _ _ h => h) (Or.inl ⟨by kernel_rfl, fun w' hS => by obtain ⟨s0, s1, s2⟩ := hS; go_simp⟩) hS0 ?_
      simp only [Act.put, List.setIfInBounds_toArray, List.set_cons_zero, List.set_cons_succ]
      refine wpTill_take (i := 2) (v := .pointer (some ⟨P, 2, none⟩)) rfl (by kernel_rfl) (by kernel_rfl) (by kernel_rfl) (by kernel_rfl) (by kernel_rfl) (fun _ _ _ h => h) (Or.inl ⟨by kernel_rfl, fun w' hS => by obtain ⟨s0, s1, s2⟩ := hS; go_simp⟩) hS0 ?_
      simp only [Act.put, List.setIfInBounds_toArray, List.set_cons_zero, List.set_cons_succ]
      refine wpTill_take (i := 3) (v := .slice (some ⟨C1, 0, none⟩) N N) rfl (by kernel_rfl) (by kernel_rfl) (by kernel_rfl) (by kernel_rfl) (by kernel_rfl) (fun _ _ _ h => h) (Or.inl ⟨by kernel_rfl, fun w' hS => by obtain ⟨s0, s1, s2⟩ := hS; go_simp⟩) hS0 ?_
      simp only [Act.put, List.setIfInBounds_toArray, List.set_cons_zero, List.set_cons_succ]
      refine wpTill_take (i := 4) (v := .pointer (some ⟨H, 0, none⟩)) rfl (by kernel_rfl) (by kernel_rfl) (by kernel_rfl) (by kernel_rfl) (by kernel_rfl) (fun _ _ _ h => h) (Or.inl ⟨by kernel_rfl, fun w' hS => by obtain ⟨s0, s1, s2⟩ := hS; go_simp⟩) hS0 ?_
      simp only [Act.put, List.setIfInBounds_toArray, List.set_cons_zero, List.set_cons_succ]
      refine wpTill_take (i := 5) (v := .int .i64 (F : Int)) rfl (by kernel_rfl) (by kernel_rfl) (by kernel_rfl) (by kernel_rfl) (by kernel_rfl) (fun _ _ _ h => h) (Or.inl ⟨by kernel_rfl, fun w' hS => by obtain ⟨s0, s1, s2⟩ := hS; go_simp⟩) hS0 ?_
      simp only [Act.put, List.setIfInBounds_toArray, List.set_cons_zero, List.set_cons_succ]
      refine wpTill_take (i := 6) (v := .pointer (some ⟨P, 0, none⟩)) rfl (by kernel_rfl) (by kernel_rfl) (by kernel_rfl) (by kernel_rfl) (by kernel_rfl) (fun _ _ _ h => h) (Or.inl ⟨by kernel_rfl, fun w' hS => by obtain ⟨s0, s1, s2⟩ := hS; go_simp⟩) hS0 ?_
      simp only [Act.put, List.setIfInBounds_toArray, List.set_cons_zero, List.set_cons_succ]
      refine wpTill_take (i := 7) (v := .pointer (some ⟨P, 0, none⟩)) rfl (by kernel_rfl) (by kernel_rfl) (by kernel_rfl) (by kernel_rfl) (by kernel_rfl) (fun _ _ _ h => h) (Or.inl ⟨by kernel_rfl, fun w' hS => by obtain ⟨s0, s1, s2⟩ := hS; go_simp⟩) hS0 ?_
      simp only [Act.put, List.setIfInBounds_toArray, List.set_cons_zero, List.set_cons_succ]
      refine wpTill_take (i := 8) (v := .pointer (some ⟨P, 2, none⟩)) rfl (by kernel_rfl) (by kernel_rfl) (by kernel_rfl) (by kernel_rfl) (by kernel_rfl) (fun _ _ _ h => h) (Or.inl ⟨by kernel_rfl, fun w' hS => by obtain ⟨s0, s1, s2⟩ := hS; go_simp⟩) hS0 ?_
      simp only [Act.put, List.setIfInBounds_toArray, List.set_cons_zero, List.set_cons_succ]
      refine wpTill_take (i := 9) (v := .slice (some ⟨C1, 0, none⟩) N N) rfl (by kernel_rfl) (by kernel_rfl) (by kernel_rfl) (by kernel_rfl) (by kernel_rfl) (fun _ _ _ h => h) (Or.inl ⟨by kernel_rfl, fun w' hS => by obtain ⟨s0, s1, s2⟩ := hS; go_simp⟩) hS0 ?_
      simp only [Act.put, List.setIfInBounds_toArray, List.set_cons_zero, List.set_cons_succ]
      refine wpTill_take (i := 10) (v := .pointer (some ⟨H, 0, none⟩)) rfl (by kernel_rfl) (by kernel_rfl) (by kernel_rfl) (by kernel_rfl) (by kernel_rfl) (fun _ _ _ h => h) (Or.inl ⟨by kernel_rfl, fun w' hS => by obtain ⟨s0, s1, s2⟩ := hS; go_simp⟩) hS0 ?_
      simp only [Act.put, List.setIfInBounds_toArray, List.set_cons_zero, List.set_cons_succ]
      refine wpTill_take (i := 11) (v := .int .i64 (F : Int)) rfl (by kernel_rfl) (by kernel_rfl) (by kernel_rfl) (by kernel_rfl) (by kernel_rfl) (fun _ _ _ h => h) (Or.inl ⟨by kernel_rfl, fun w' hS => by obtain ⟨s0, s1, s2⟩ := hS; go_simp⟩) hS0 ?_
      simp only [Act.put, List.setIfInBounds_toArray, List.set_cons_zero, List.set_cons_succ]
      refine wpTill_take (i := 12) (v := .pointer (some ⟨C1, F, none⟩)) rfl (by kernel_rfl) (by kernel_rfl) (by kernel_rfl) (by kernel_rfl) (by kernel_rfl) (fun _ _ _ h => h) (Or.inl ⟨by kernel_rfl, fun w' hS => by obtain ⟨s0, s1, s2⟩ := hS; go_simp⟩) hS0 ?_
      simp only [Act.put, List.setIfInBounds_toArray, List.set_cons_zero, List.set_cons_succ]
      refine wpTill_take (i := 13) (v := .slice (some ⟨X1, p1, none⟩) l1 q1) rfl (by kernel_rfl) (by kernel_rfl) (by kernel_rfl) (by kernel_rfl) (by kernel_rfl) (fun _ _ _ h => h) (Or.inl ⟨by kernel_rfl, fun w' hS => by obtain ⟨s0, s1, s2⟩ := hS; go_simp⟩) hS0 ?_
      simp only [Act.put, List.setIfInBounds_toArray, List.set_cons_zero, List.set_cons_succ]
      refine wpTill_take (i := 14) (v := .int .i64 (k : Int)) rfl (by kernel_rfl) (by kernel_rfl) (by kernel_rfl) (by kernel_rfl) (by kernel_rfl) (fun _ _ _ h => h) (Or.inl ⟨by kernel_rfl, fun w' hS => by obtain ⟨s0, s1, s2⟩ := hS; go_simp⟩) hS0 ?_
      simp only [Act.put, List.setIfInBounds_toArray, List.set_cons_zero, List.set_cons_succ]
      refine wpTill_one (i := 15) (by kernel_rfl) rfl (fun K hK => ?_)
      have HK := Lib.hid hK.out
      clear hK
      go_simp
      refine HK.out _ _ (fun _ => ⟨k0.out, k1.out, k2.out⟩) (fun hS1 => ?_)
      clear HK
      refine wpTill_one (i := 16) (by kernel_rfl) rfl (fun K hK => ?_)
      have HK := Lib.hid hK.out
      clear hK
      refine step_append_room (by rfl) _ _ _ (by rfl) 3 i0 1 Try.underlying32 hi hz1 X1 p1 l1 q1 (by rfl) ⟨H + 1, 0, none⟩ 1 1 [.int .i64 (k : Int)] (by rfl) (by rfl) hnew.out (by simp [Value.oneCell']) hroom hspare.out ?_
      refine HK.out _ _ (fun _ => ⟨j0.out, j1.out, j2.out⟩) (fun hS2 => ?_)
      clear HK
      refine wpTill_take (i := 17) (v := .pointer (some ⟨C1, F, none⟩)) rfl (by kernel_rfl) (by kernel_rfl) (by kernel_rfl) (by kernel_rfl) (by kernel_rfl) (fun _ _ _ h => h) (Or.inl ⟨by kernel_rfl, fun w' hS => by obtain ⟨s0, s1, s2⟩ := hS; go_simp⟩) (hS2 (by decide)) ?_
      simp only [Act.put, List.setIfInBounds_toArray, List.set_cons_zero, List.set_cons_succ]
      refine wpTill_one (i := 18) (by kernel_rfl) rfl (fun K hK => ?_)
      have HK := Lib.hid hK.out
      clear hK
      simp only [World.setCells, Nat.mul_one]
      go_simp
      refine HK.out _ _ (fun h => absurd rfl h) (fun _ => ?_)
      clear HK
      refine wpTill_done (by kernel_rfl) ?_ _
      obtain ⟨wc, hwc⟩ : ∃ wc, ((((wa.alloc (.cells #[.int .i64 (k : Int)] 3)).setCell ⟨X1, p1 + l1, none⟩ (.int .i64 (k : Int))).setCell ⟨C1, F, none⟩ (.slice (some ⟨X1, p1, none⟩) (l1 + 1) q1))).drew = wc := ⟨_, rfl⟩
      rw [hwc] at HLn HOn HPn hgn hsn ⊢
      clear g0 g1 g2 k0 k1 k2 j0 j1 j2 j3 j4 hnew hspare hS0 hS1 hS2 hdr HBB1 HPU1 hsp1 hrow1 hbb hbA hg1 hg2 HLa HA1 HA2 hsa hwa hwc hroom
      have HLa := HLn
      have HA1 := HPn
      have HA2 := HOn
      have hg2 := hgn.out
      have hsa := hsn.out
      clear HLn HOn HPn hgn hsn hr1 hlen1 hsum1 hall1 ho1 hp1 hl1 hq1 hF0 hF1
      have hr2 : (rowK true (T : Int) es k).length < dd true es T := row_room HG.out rfl
      have hall2 := HPA2.out
      have hlen2 : ∀ u, u < N → (rowK true u es k).length ≤ dd true es u := fun u _ => rowK_mono true u es hk' (Nat.le_refl _)
      have hsum2 : pre (dd true es) T + dd true es T ≤ m := by rw [← hall2]; exact pre_mono (dd true es) (show T + 1 ≤ N from hT)
      have hrow2 := HA2.out.1 T hT
      rw [offC_pos (by omega)] at hrow2
      have hbA : Below wc.heap.size wc (wc.alloc (.cells #[.int .i64 (k : Int)] 3)) := (Below.refl _ _).alloc (Nat.le_refl _) _
      have hbb : Below wc.heap.size wc ((wc.alloc (.cells #[.int .i64 (k : Int)] 3)).drew) := hbA.drew
      have HBB2 := Lib.hid (HA2.out.on hbA)
      have HPU2 := Lib.hid (HBB2.out.push (by omega) (Nat.le_of_eq hall2) hT hlen2 hr2 k (fun u => rowK true u es (k + 1)) (rowK_yes HG.out (by simp [outB])) (fun u hu => rowK_no HG.out (by simp [outB] <;> omega)))
      have ho2 := offC_pos (d := dd true es) (u := T) (by omega)
      try dsimp only at HPU2
      rw [ho2] at HPU2
      have hsp2 := HBB2.out.2.2 (pre (dd true es) T + (rowK true (T : Int) es k).length) (by omega)
      obtain ⟨p2, hp2⟩ : ∃ p, pre (dd true es) T = p := ⟨_, rfl⟩
      obtain ⟨l2, hl2⟩ : ∃ l, (rowK true (T : Int) es k).length = l := ⟨_, rfl⟩
      obtain ⟨q2, hq2⟩ : ∃ q, dd true es T = q := ⟨_, rfl⟩
      rw [hp2, hl2, hq2] at hrow2 HPU2
      rw [hp2, hl2] at hsp2
      have hroom : l2 + 1 ≤ q2 := by omega
      have g0 := Lib.hid (cell_on (Below.refl wc.heap.size wc).drew HLa.out.2.2.2.1)
      have g1 := Lib.hid (cell_on (Below.refl wc.heap.size wc).drew hg2)
      have g2 := Lib.hid (cell_on (Below.refl wc.heap.size wc).drew hrow2.1)
      have k0 := Lib.hid (cell_on hbb HLa.out.2.2.2.1)
      have k1 := Lib.hid (cell_on hbb hg2)
      have k2 := Lib.hid (cell_on hbb hrow2.1)
      have j0 := Lib.hid (set1_other _ X2 (p2 + l2 * 1) (.int .i64 (k : Int)) _ (by simp <;> omega) k0.out)
      have j1 := Lib.hid (set1_other _ X2 (p2 + l2 * 1) (.int .i64 (k : Int)) _ (by simp <;> omega) k1.out)
      have j2 := Lib.hid (set1_other _ X2 (p2 + l2 * 1) (.int .i64 (k : Int)) _ (by simp <;> omega) k2.out)
      have j3 := cell_on hbA hrow2.1
      have j4 := frozen_on hbA hrow2.1 hrow2.2
      have hnew := Lib.hid (one_new2 wc (k : Int) 3)
      rw [hsa] at hnew
      have hspare : Hid (∀ j, j < [Value.int .i64 (k : Int)].length → (((wc.alloc (.cells #[.int .i64 (k : Int)] 3)).drew).cell? ⟨X2, p2 + l2 * 1 + j, none⟩).isSome = true ∧ ((wc.alloc (.cells #[.int .i64 (k : Int)] 3)).drew).frozen? ⟨X2, p2 + l2 * 1 + j, none⟩ = false) := Lib.hid fun j hj => by
        obtain rfl : j = 0 := by simpa using hj
        rw [Nat.mul_one, Nat.add_zero]
        obtain ⟨⟨y, hy⟩, hy2⟩ := hsp2
        have hd := (Below.refl (wc.alloc (.cells #[.int .i64 (k : Int)] 3)).heap.size (wc.alloc (.cells #[.int .i64 (k : Int)] 3))).drew
        exact ⟨by rw [cell_on hd hy]; rfl, frozen_on hd hy hy2⟩
      have hdr : Below ((((wc.alloc (.cells #[.int .i64 (k : Int)] 3)).setCell ⟨X2, p2 + l2, none⟩ (.int .i64 (k : Int))).setCell ⟨C2, T, none⟩ (.slice (some ⟨X2, p2, none⟩) (l2 + 1) q2))).heap.size ((((wc.alloc (.cells #[.int .i64 (k : Int)] 3)).setCell ⟨X2, p2 + l2, none⟩ (.int .i64 (k : Int))).setCell ⟨C2, T, none⟩ (.slice (some ⟨X2, p2, none⟩) (l2 + 1) q2))) ((((wc.alloc (.cells #[.int .i64 (k : Int)] 3)).setCell ⟨X2, p2 + l2, none⟩ (.int .i64 (k : Int))).setCell ⟨C2, T, none⟩ (.slice (some ⟨X2, p2, none⟩) (l2 + 1) q2))).drew := (Below.refl _ _).drew
      have HLn := Lib.hid ((((HLa.out.on hbA).set (q := ⟨X2, p2 + l2, none⟩) (.int .i64 (k : Int)) (by simp <;> omega) (by simp <;> omega) (by omega)).set (q := ⟨C2, T, none⟩) (.slice (some ⟨X2, p2, none⟩) (l2 + 1) q2) (by simp <;> omega) (by simp <;> omega) (by omega)).on hdr)
      have HOn := Lib.hid ((((HA1.out.on hbA).other ⟨X2, p2 + l2, none⟩ (.int .i64 (k : Int)) (by simp <;> omega) (by simp <;> omega)).other ⟨C2, T, none⟩ (.slice (some ⟨X2, p2, none⟩) (l2 + 1) q2) (by simp <;> omega) (by simp <;> omega)).on hdr)
      have HPn := Lib.hid (HPU2.out.on hdr)
      have hsn : Hid (((((wc.alloc (.cells #[.int .i64 (k : Int)] 3)).setCell ⟨X2, p2 + l2, none⟩ (.int .i64 (k : Int))).setCell ⟨C2, T, none⟩ (.slice (some ⟨X2, p2, none⟩) (l2 + 1) q2))).drew.heap.size = H + 3) := Lib.hid (by simp [hsa])
      have hF0 : (0 : Int) ≤ (T : Int) := Int.natCast_nonneg _
      have hF1 : (T : Int) < (N : Int) := by omega
      go_wp2
      refine region_till (fun w' => w'.cell? ⟨P, 3, none⟩ = some (.slice (some ⟨C2, 0, none⟩) N N) ∧ w'.cell? ⟨H, 1, none⟩ = some (.int .i64 (T : Int)) ∧ w'.cell? ⟨C2, T, none⟩ = some (.slice (some ⟨X2, p2, none⟩) l2 q2)) 18 (by kernel_rfl) ⟨g0.out, g1.out, g2.out⟩ (fun hS0 => ?_)
      refine wpTill_take (i := 0) (v := .pointer (some ⟨P, 0, none⟩)) rfl (by kernel_rfl) (by kernel_rfl) (by kernel_rfl) (by kernel_rfl) (by kernel_rfl) (fun _ _ _ h => h) (Or.inl ⟨by kernel_rfl, fun w' hS => by obtain ⟨s0, s1, s2⟩ := hS; go_simp⟩) hS0 ?_
      simp only [Act.put, List.setIfInBounds_toArray, List.set_cons_zero, List.set_cons_succ]
      refine wpTill_take (i := 1) (v := .pointer (some ⟨P, 0, none⟩)) rfl (by kernel_rfl) (by kernel_rfl) (by kernel_rfl) (by kernel_rfl) (by kernel_rfl) (fun _ _ _ h => h) (Or.inl ⟨by kernel_rfl, fun w' hS => by obtain ⟨s0, s1, s2⟩ := hS; go_simp⟩) hS0 ?_
      simp only [Act.put, List.setIfInBounds_toArray, List.set_cons_zero, List.set_cons_succ]
      refine wpTill_take (i := 2) (v := .pointer (some ⟨P, 3, none⟩)) rfl (by kernel_rfl) (by kernel_rfl) (by kernel_rfl) (by kernel_rfl) (by kernel_rfl) (fun _ _ _ h => h) (Or.inl ⟨by kernel_rfl, fun w' hS => by obtain ⟨s0, s1, s2⟩ := hS; go_simp⟩) hS0 ?_
      simp only [Act.put, List.setIfInBounds_toArray, List.set_cons_zero, List.set_cons_succ]
      refine wpTill_take (i := 3) (v := .slice (some ⟨C2, 0, none⟩) N N) rfl (by kernel_rfl) (by kernel_rfl) (by kernel_rfl) (by kernel_rfl) (by kernel_rfl) (fun _ _ _ h => h) (Or.inl ⟨by kernel_rfl, fun w' hS => by obtain ⟨s0, s1, s2⟩ := hS; go_simp⟩) hS0 ?_
      simp only [Act.put, List.setIfInBounds_toArray, List.set_cons_zero, List.set_cons_succ]
      refine wpTill_take (i := 4) (v := .pointer (some ⟨H, 1, none⟩)) rfl (by kernel_rfl) (by kernel_rfl) (by kernel_rfl) (by kernel_rfl) (by kernel_rfl) (fun _ _ _ h => h) (Or.inl ⟨by kernel_rfl, fun w' hS => by obtain ⟨s0, s1, s2⟩ := hS; go_simp⟩) hS0 ?_
      simp only [Act.put, List.setIfInBounds_toArray, List.set_cons_zero, List.set_cons_succ]
      refine wpTill_take (i := 5) (v := .int .i64 (T : Int)) rfl (by kernel_rfl) (by kernel_rfl) (by kernel_rfl) (by kernel_rfl) (by kernel_rfl) (fun _ _ _ h => h) (Or.inl ⟨by kernel_rfl, fun w' hS => by obtain ⟨s0, s1, s2⟩ := hS; go_simp⟩) hS0 ?_
      simp only [Act.put, List.setIfInBounds_toArray, List.set_cons_zero, List.set_cons_succ]
      refine wpTill_take (i := 6) (v := .pointer (some ⟨P, 0, none⟩)) rfl (by kernel_rfl) (by kernel_rfl) (by kernel_rfl) (by kernel_rfl) (by kernel_rfl) (fun _ _ _ h => h) (Or.inl ⟨by kernel_rfl, fun w' hS => by obtain ⟨s0, s1, s2⟩ := hS; go_simp⟩) hS0 ?_
      simp only [Act.put, List.setIfInBounds_toArray, List.set_cons_zero, List.set_cons_succ]
      refine wpTill_take (i := 7) (v := .pointer (some ⟨P, 0, none⟩)) rfl (by kernel_rfl) (by kernel_rfl) (by kernel_rfl) (by kernel_rfl) (by kernel_rfl) (fun _ _ _ h => h) (Or.inl ⟨by kernel_rfl, fun w' hS => by obtain ⟨s0, s1, s2⟩ := hS; go_simp⟩) hS0 ?_
      simp only [Act.put, List.setIfInBounds_toArray, List.set_cons_zero, List.set_cons_succ]
      refine wpTill_take (i := 8) (v := .pointer (some ⟨P, 3, none⟩)) rfl (by kernel_rfl) (by kernel_rfl) (by kernel_rfl) (by kernel_rfl) (by kernel_rfl) (fun _ _ _ h => h) (Or.inl ⟨by kernel_rfl, fun w' hS => by obtain ⟨s0, s1, s2⟩ := hS; go_simp⟩) hS0 ?_
      simp only [Act.put, List.setIfInBounds_toArray, List.set_cons_zero, List.set_cons_succ]
      refine wpTill_take (i := 9) (v := .slice (some ⟨C2, 0, none⟩) N N) rfl (by kernel_rfl) (by kernel_rfl) (by kernel_rfl) (by kernel_rfl) (by kernel_rfl) (fun _ _ _ h => h) (Or.inl ⟨by kernel_rfl, fun w' hS => by obtain ⟨s0, s1, s2⟩ := hS; go_simp⟩) hS0 ?_
      simp only [Act.put, List.setIfInBounds_toArray, List.set_cons_zero, List.set_cons_succ]
      refine wpTill_take (i := 10) (v := .pointer (some ⟨H, 1, none⟩)) rfl (by kernel_rfl) (by kernel_rfl) (by kernel_rfl) (by kernel_rfl) (by kernel_rfl) (fun _ _ _ h => h) (Or.inl ⟨by kernel_rfl, fun w' hS => by obtain ⟨s0, s1, s2⟩ := hS; go_simp⟩) hS0 ?_
      simp only [Act.put, List.setIfInBounds_toArray, List.set_cons_zero, List.set_cons_succ]
      refine wpTill_take (i := 11) (v := .int .i64 (T : Int)) rfl (by kernel_rfl) (by kernel_rfl) (by kernel_rfl) (by kernel_rfl) (by kernel_rfl) (fun _ _ _ h => h) (Or.inl ⟨by kernel_rfl, fun w' hS => by obtain ⟨s0, s1, s2⟩ := hS; go_simp⟩) hS0 ?_
      simp only [Act.put, List.setIfInBounds_toArray, List.set_cons_zero, List.set_cons_succ]
      refine wpTill_take (i := 12) (v := .pointer (some ⟨C2, T, none⟩)) rfl (by kernel_rfl) (by kernel_rfl) (by kernel_rfl) (by kernel_rfl) (by kernel_rfl) (fun _ _ _ h => h) (Or.inl ⟨by kernel_rfl, fun w' hS => by obtain ⟨s0, s1, s2⟩ := hS; go_simp⟩) hS0 ?_
      simp only [Act.put, List.setIfInBounds_toArray, List.set_cons_zero, List.set_cons_succ]
      refine wpTill_take (i := 13) (v := .slice (some ⟨X2, p2, none⟩) l2 q2) rfl (by kernel_rfl) (by kernel_rfl) (by kernel_rfl) (by kernel_rfl) (by kernel_rfl) (fun _ _ _ h => h) (Or.inl ⟨by kernel_rfl, fun w' hS => by obtain ⟨s0, s1, s2⟩ := hS; go_simp⟩) hS0 ?_
      simp only [Act.put, List.setIfInBounds_toArray, List.set_cons_zero, List.set_cons_succ]
      refine wpTill_take (i := 14) (v := .int .i64 (k : Int)) rfl (by kernel_rfl) (by kernel_rfl) (by kernel_rfl) (by kernel_rfl) (by kernel_rfl) (fun _ _ _ h => h) (Or.inl ⟨by kernel_rfl, fun w' hS => by obtain ⟨s0, s1, s2⟩ := hS; go_simp⟩) hS0 ?_
      simp only [Act.put, List.setIfInBounds_toArray, List.set_cons_zero, List.set_cons_succ]
      refine wpTill_one (i := 15) (by kernel_rfl) rfl (fun K hK => ?_)
      have HK := Lib.hid hK.out
      clear hK
      go_simp
      refine HK.out _ _ (fun _ => ⟨k0.out, k1.out, k2.out⟩) (fun hS1 => ?_)
      clear HK
      refine wpTill_one (i := 16) (by kernel_rfl) rfl (fun K hK => ?_)
      have HK := Lib.hid hK.out
      clear hK
      refine step_append_room (by rfl) _ _ _ (by rfl) 3 i0 1 Try.underlying32 hi hz1 X2 p2 l2 q2 (by rfl) ⟨H + 2, 0, none⟩ 1 1 [.int .i64 (k : Int)] (by rfl) (by rfl) hnew.out (by simp [Value.oneCell']) hroom hspare.out ?_
      refine HK.out _ _ (fun _ => ⟨j0.out, j1.out, j2.out⟩) (fun hS2 => ?_)
      clear HK
      refine wpTill_take (i := 17) (v := .pointer (some ⟨C2, T, none⟩)) rfl (by kernel_rfl) (by kernel_rfl) (by kernel_rfl) (by kernel_rfl) (by kernel_rfl) (fun _ _ _ h => h) (Or.inl ⟨by kernel_rfl, fun w' hS => by obtain ⟨s0, s1, s2⟩ := hS; go_simp⟩) (hS2 (by decide)) ?_
      simp only [Act.put, List.setIfInBounds_toArray, List.set_cons_zero, List.set_cons_succ]
      refine wpTill_one (i := 18) (by kernel_rfl) rfl (fun K hK => ?_)
      have HK := Lib.hid hK.out
      clear hK
      simp only [World.setCells, Nat.mul_one]
      go_simp
      refine HK.out _ _ (fun h => absurd rfl h) (fun _ => ?_)
      clear HK
      refine wpTill_done (by kernel_rfl) ?_ _
      have hks : ((k + 1 : Nat) : Int) = (k : Int) + 1 := by omega
      clear g0 g1 g2 k0 k1 k2 j0 j1 j2 j3 j4 hnew hspare hS0 hS1 hS2 HBB2 HPU2 hrow2 hg2 HLa HA1 HA2
      go_wp2
      go_roundw
      case rel => exact ⟨k + 1, by omega, by go_num, HLn, HOn, HPn, Lib.hid (by rw [hsn.out]; omega)⟩
      case measure => simp [RowKit.intOf] <;> omega
    · obtain rfl : k = m := by omega
      obtain ⟨o1, o2, o3, o4, o5, o6⟩ := HOR.out
      have hPs := HS.out
      have hAH : AHeld wr wr.heap.size ⟨P, 0, none⟩ N es := by
        refine ⟨P, N, _, _, _, rfl, rfl, HS.out, by omega, HL.out.1, HL.out.2.1, HL.out.2.2.1, HL.out.2.2.2.1, ?_, ?_, ?_⟩
        · obtain ⟨a1, c1, e1, e2, e3⟩ := HL.out.2.2.2.2.1
          refine ⟨a1, c1, e1, e2, fun h0 => ?_⟩
          obtain ⟨b, off, r1, r2, r3⟩ := e3 h0
          exact ⟨b, off, r1, by omega, r3⟩
        · refine ⟨C1, N, rfl, by omega, fun u hu => ⟨_, (HI1.out.1 u hu).1, X1, offC (dd false es) u, _, by unfold rowL; rw [hm], by omega, fun j i hj => ?_⟩⟩
          unfold rowL at hj
          rw [hm] at hj
          have hd : 0 < dd false es u := by
            have := (List.getElem?_eq_some_iff.1 hj).1
            unfold dd rowL; rw [hm]; omega
          rw [offC_pos hd]
          exact HI1.out.2.1 u hu j i hj
        · refine ⟨C2, N, rfl, by omega, fun u hu => ⟨_, (HI2.out.1 u hu).1, X2, offC (dd true es) u, _, by unfold rowL; rw [hm], by omega, fun j i hj => ?_⟩⟩
          unfold rowL at hj
          rw [hm] at hj
          have hd : 0 < dd true es u := by
            have := (List.getElem?_eq_some_iff.1 hj).1
            unfold dd rowL; rw [hm]; omega
          rw [offC_pos hd]
          exact HI2.out.2.1 u hu j i hj
      have HAH := Lib.hid hAH
      have HZ := Lib.hid HL.out.2.2.2.2.2
      clear hAH HL HI1 HI2
      go_wp2
      go_ret2
      exact ⟨_, rfl, HAH.out, HZ.out⟩
end Go.Proofs.Ytpbjknhoiehonaa
