/- TcSame of the model and of the program. -/
import Derived.Test.YtickneafppbegaaEnt
import Derived.Test.YtickneafppbegaaVoteOk
namespace Go.Proofs.Ytickneafppbegaa
open Go.ChangeShapes Go.WideShapes Go.ChangeAt Go.RowKit
set_option linter.unusedSimpArgs false

/-- Are the entries the same? -/
noncomputable def eqEs (V W : List Et) : Bool := @decide (V = W) (Classical.propDecidable _)
theorem eqEs_len {V W : List Et} (h : ¬ V.length = W.length) : eqEs V W = false := @decide_eq_false _ (Classical.propDecidable _) fun k => h (by rw [k])
theorem eqEs_no {V W : List Et} {i : Nat} {t u : Et} (ht : V[i]? = some t) (hu : W[i]? = some u) (h : ¬ t = u) : eqEs V W = false := @decide_eq_false _ (Classical.propDecidable _) fun k => by
  rw [k, hu] at ht
  cases ht
  exact h rfl
theorem eqEs_yes {V W : List Et} (hl : V.length = W.length) (h : ∀ (i : Nat) (t u : Et), i < V.length → V[i]? = some t → W[i]? = some u → t = u) : eqEs V W = true := @decide_eq_true _ (Classical.propDecidable _) (by
  apply List.ext_getElem hl
  intro i h1 h2
  exact h i _ _ h1 (List.getElem?_eq_getElem h1) (List.getElem?_eq_getElem h2))
/-- Are the timeout certificates the same? -/
noncomputable def sameTB (x y : Int) (L M : List Et) : Bool := (x == y) && eqEs L M
/-- The first k entries are the same. -/
def SameTo (V W : List Et) (k : Nat) : Prop := ∀ (i : Nat) (t u : Et), i < k → V[i]? = some t → W[i]? = some u → t = u
theorem SameTo.zero {V W : List Et} : SameTo V W 0 := fun _ _ _ h => absurd h (Nat.not_lt_zero _)
theorem SameTo.succ {V W : List Et} {k : Nat} {t : Et} (h : SameTo V W k) (h1 : V[k]? = some t) (h2 : W[k]? = some t) : SameTo V W (k + 1) := fun i p q hi hp hq => by
  by_cases hik : i < k
  · exact h i p q hik hp hq
  · obtain rfl : i = k := by omega
    rw [h1] at hp
    rw [h2] at hq
    cases hp
    cases hq
    rfl
/-- Are two entries the same? -/
def sameEB (tx ty : Int) (tk : List UInt8) (ux uy : Int) (uk : List UInt8) : Bool := (tx == ux) && ((ty == uy) && (tk == uk))
theorem sameEB_yes {tx ty : Int} {tk : List UInt8} {ux uy : Int} {uk : List UInt8} (h : sameEB tx ty tk ux uy uk = true) : (⟨tx, ty, tk⟩ : Et) = ⟨ux, uy, uk⟩ := by
  unfold sameEB at h
  rw [Bool.and_eq_true, Bool.and_eq_true, beq_iff_eq, beq_iff_eq, beq_iff_eq] at h
  rw [h.1, h.2.1, h.2.2]
theorem sameEB_no {tx ty : Int} {tk : List UInt8} {ux uy : Int} {uk : List UInt8} (h : sameEB tx ty tk ux uy uk = false) : ¬ (⟨tx, ty, tk⟩ : Et) = ⟨ux, uy, uk⟩ := fun e => by
  injection e with e1 e2 e3
  unfold sameEB at h
  rw [e1, e2, e3] at h
  simp at h

set_option maxHeartbeats 4000000 in
theorem entrySame_any (tx ty ux uy : Int) (a b : Value) (tk uk : List UInt8) (w : World) (ha : Sl w w.heap.size a tk) (hb : Sl w w.heap.size b uk) :
    Calls Try.prog 39 #[.agg #[.int .i64 tx, .int .i64 ty, a], .agg #[.int .i64 ux, .int .i64 uy, b]] w (BoolB w (sameEB tx ty tk ux uy uk)) := by
  obtain ⟨A, c, rfl, p1, p2, p0, p3⟩ := id ha
  obtain ⟨B, d, rfl, q1, q2, q0, q3⟩ := id hb
  clear p1 p2 p0 p3 q1 q2 q0 q3
  have hB : Below w.heap.size w ((w.alloc (.cells #[.int .i64 tx, .int .i64 ty, .slice A tk.length c] 53)).alloc (.cells #[.int .i64 ux, .int .i64 uy, .slice B uk.length d] 53)) := ((Below.refl _ w).alloc (Nat.le_refl _) _).alloc (by simp) _
  have HA := Lib.hid (ha.up hB); have HB' := Lib.hid (hb.up hB)
  obtain ⟨R, hR⟩ : ∃ R, R = sameEB tx ty tk ux uy uk := ⟨_, rfl⟩
  rw [← hR]
  unfold sameEB at hR
  have HR := Lib.hid hR
  clear hR ha hb
  by_cases c1 : tx = ux
  · have b1 : (tx == ux) = true := beq_iff_eq.2 c1
    have B1 := Lib.hid b1
    by_cases c2 : ty = uy
    · have b2 : (ty == uy) = true := beq_iff_eq.2 c2
      have B2 := Lib.hid b2
      clear c1 c2
      go_enter Try.func39, Try.ntmps39
      go_wp2_with fail
      refine (implSameBytes_any _ _ tk uk _ HA.out HB'.out).mono ?_
      rintro ev _ ⟨rfl, rfl⟩
      have HB6 := Lib.hid hB
      obtain rfl : R = (tk == uk) := by rw [HR.out, B1.out, B2.out]; rfl
      clear b1 b2
      go_wp2
      go_ret
      exact ⟨rfl, HB6.out⟩
    · have b2 : (ty == uy) = false := beq_eq_false_iff_ne.2 c2
      obtain rfl : R = false := by rw [HR.out, b1, b2]; rfl
      clear c1 c2
      go_enter Try.func39, Try.ntmps39
      go_wp2
      go_ret
      exact ⟨rfl, hB⟩
  · have b1 : (tx == ux) = false := beq_eq_false_iff_ne.2 c1
    obtain rfl : R = false := by rw [HR.out, b1]; rfl
    clear c1
    go_enter Try.func39, Try.ntmps39
    go_wp2
    go_ret
    exact ⟨rfl, hB⟩

set_option maxRecDepth 100000 in
set_option maxHeartbeats 4000000 in
theorem equalFuncE_any (v u : Value) (V W : List Et) (w : World) (h : SlE w w.heap.size v V) (h' : SlE w w.heap.size u W) :
    Calls Try.prog 38 #[v, u, .func (Fn.func 39) #[] #[]] w (BoolB w (eqEs V W)) := by
  obtain ⟨A, c, rfl, h1, h2, h0, h3⟩ := h
  obtain ⟨A', c', rfl, h1', h2', h0', h3'⟩ := h'
  unfold maxLen at h2 h2'
  clear h0 h0'
  obtain ⟨R, hR⟩ : ∃ R, R = eqEs V W := ⟨_, rfl⟩
  rw [← hR]
  have HR := Lib.hid hR
  clear hR
  by_cases hlen : V.length = W.length
  · have HLEN := Lib.hid hlen
    rw [← hlen] at h1' h3' ⊢
    have hne : ((V.length : Int) != (V.length : Int)) = false := by simp
    clear hlen
    go_enter Try.func38, Try.ntmps38
    go_wp2
    go_loopw [7, 17] (fun _ i wr => ∃ j : Nat, j ≤ V.length ∧ i = .int .i64 (j : Int) ∧ Hid (SameTo V W j) ∧ Hid (Below w.heap.size w wr))
      (fun _ i _ => V.length - (intOf i).toNat)
    case atStart => exact ⟨0, Nat.zero_le _, rfl, Lib.hid SameTo.zero, Lib.hid (Below.refl _ _)⟩
    case round =>
      obtain ⟨j, hj, rfl, hsame, HBj⟩ := hrel
      by_cases hlt : j < V.length
      · obtain ⟨b, off, rfl, hbb, hcell⟩ := h3 (by omega)
        obtain ⟨b', off', rfl, hbb', hcell'⟩ := h3' (by omega)
        obtain ⟨t, ht⟩ := getE hlt
        have hlw : j < W.length := by have := HLEN.out; omega
        obtain ⟨q, hq⟩ := getE hlw
        have hjl : (j : Int) < (V.length : Int) := by omega
        obtain ⟨y1, g0, g1, g2, s1⟩ := (hcell j t ht).below HBj.out hbb
        obtain ⟨y3, k0, k1, k2, s3⟩ := hcell' j q hq
        obtain ⟨Ay, cy, rfl, _⟩ := id s1
        obtain ⟨Bu, bu, rfl, _⟩ := id s3
        have H1 := (InvF.start wr).newG 53 #[.int .i64 t.x, .int .i64 t.y, .slice Ay t.k.length cy] wr.heap.size
        have hb1 : Below w.heap.size w (wr.alloc (.cells #[.int .i64 t.x, .int .i64 t.y, .slice Ay t.k.length cy] 53)) := HBj.out.trans (H1.bel.mono HBj.out.size)
        replace k0 := (hb1.cell (p := ⟨b', off' + j * 3, none⟩) hbb').trans k0
        replace k1 := (hb1.cell (p := ⟨b', off' + j * 3 + 1, none⟩) hbb').trans k1
        replace k2 := (hb1.cell (p := ⟨b', off' + j * 3 + 2, none⟩) hbb').trans k2
        have H2 := H1.newG 53 #[.int .i64 q.x, .int .i64 q.y, .slice Bu q.k.length bu] (wr.heap.size + 1)
        obtain ⟨m0, m1, m2⟩ := H2.c3 (.tail _ (.head _))
        obtain ⟨n0, n1, n2⟩ := H2.c3 (.head _)
        have HB2 : Hid (Below w.heap.size w ((wr.alloc (.cells #[.int .i64 t.x, .int .i64 t.y, .slice Ay t.k.length cy] 53)).alloc (.cells #[.int .i64 q.x, .int .i64 q.y, .slice Bu q.k.length bu] 53))) := Lib.hid (HBj.out.trans (H2.bel.mono HBj.out.size))
        have Q1 := Lib.hid (s1.mono HBj.out.size |>.up H2.bel)
        have Q3 := Lib.hid (s3.up HB2.out)
        obtain ⟨sb, hsb⟩ : ∃ sb, sb = sameEB t.x t.y t.k q.x q.y q.k := ⟨_, rfl⟩
        have HSB := Lib.hid hsb
        have HTJ := Lib.hid ht
        have HUJ := Lib.hid hq
        clear hcell hcell' s1 s3 hsb ht hq H1 H2 hb1
        go_wp2_with fail
        refine (entrySame_any t.x t.y q.x q.y _ _ t.k q.k _ Q1.out Q3.out).mono ?_
        rw [← HSB.out]
        rintro ev w11 ⟨rfl, hb11⟩
        have HB3 := Lib.hid (HB2.out.trans (hb11.mono HB2.out.size))
        clear hb11 g0 g1 g2 k0 k1 k2 m0 m1 m2 n0 n1 n2 HB2
        rcases sb with _ | _
        · obtain rfl : R = false := by rw [HR.out]; exact eqEs_no HTJ.out HUJ.out (sameEB_no HSB.out.symm)
          go_wp2
          go_ret
          exact ⟨rfl, HB3.out⟩
        · have HS12 : Hid (SameTo V W (j + 1)) := Lib.hid (hsame.out.succ HTJ.out (by rw [HUJ.out]; exact congrArg _ (sameEB_yes HSB.out.symm).symm))
          go_wp2
          go_roundw
          case rel => exact ⟨j + 1, by omega, by go_num, HS12, HB3⟩
          case measure => simp [intOf]; omega
      · obtain rfl : j = V.length := by omega
        obtain rfl : R = true := by rw [HR.out]; exact eqEs_yes HLEN.out hsame.out
        go_wp2
        go_ret
        exact ⟨rfl, HBj.out⟩
  · have hcmp : ((V.length : Int) != (W.length : Int)) = true := by rw [bne_iff_ne]; omega
    obtain rfl : R = false := by rw [HR.out]; exact eqEs_len hlen
    clear hlen h3 h3'
    go_enter Try.func38, Try.ntmps38
    go_wp2
    go_ret
    exact ⟨rfl, Below.refl _ _⟩

set_option maxHeartbeats 4000000 in
theorem implTcSame_any (x y : Int) (a b : Value) (L M : List Et) (w : World) (ha : SlE w w.heap.size a L) (hb : SlE w w.heap.size b M) :
    Calls Try.prog 15 #[.agg #[.int .i64 x, a], .agg #[.int .i64 y, b]] w (BoolB w (sameTB x y L M)) := by
  obtain ⟨A, c, rfl, p1, p2, p0, p3⟩ := id ha
  obtain ⟨B, d, rfl, q1, q2, q0, q3⟩ := id hb
  clear p1 p2 p0 p3 q1 q2 q0 q3
  have H1 := ((InvF.start w).newG 33 #[.int .i64 x, .slice A L.length c] w.heap.size).newG 33 #[.int .i64 y, .slice B M.length d] (w.heap.size + 1)
  have hB := H1.bel
  have HBB := Lib.hid hB
  obtain ⟨R, hR⟩ : ∃ R, R = sameTB x y L M := ⟨_, rfl⟩
  rw [← hR]
  unfold sameTB at hR
  by_cases c1 : x = y
  · have b1 : (x == y) = true := beq_iff_eq.2 c1
    rw [b1, Bool.true_and] at hR
    have HR := Lib.hid hR
    have HA := Lib.hid (ha.up hB); have HB' := Lib.hid (hb.up hB)
    clear hR c1 ha hb H1
    go_enter Try.func15, Try.ntmps15
    go_wp2_with fail
    refine (equalFuncE_any _ _ L M _ HA.out HB'.out).mono ?_
    rw [← HR.out]
    rintro ev w6 ⟨rfl, hb6⟩
    have HB6 := Lib.hid (HBB.out.trans (hb6.mono HBB.out.size))
    clear hb6
    go_wp2
    go_ret
    exact ⟨rfl, HB6.out⟩
  · have b1 : (x == y) = false := beq_eq_false_iff_ne.2 c1
    obtain rfl : R = false := by rw [hR, b1]; rfl
    clear hR c1 H1
    go_enter Try.func15, Try.ntmps15
    go_wp2
    go_ret
    exact ⟨rfl, hB⟩

set_option maxRecDepth 100000 in
set_option maxHeartbeats 8000000 in
theorem specTcSame_any (x y : Int) (a b : Value) (L M : List Et) (w : World) (ha : SlE w w.heap.size a L) (hb : SlE w w.heap.size b M) :
    Calls Try.prog 14 #[.agg #[.int .i64 x, a], .agg #[.int .i64 y, b]] w (BoolB w (sameTB x y L M)) := by
  obtain ⟨A, c, rfl, h1, h2, h0, h3⟩ := ha
  obtain ⟨A', c', rfl, h1', h2', h0', h3'⟩ := hb
  unfold maxLen at h2 h2'
  clear h0 h0'
  have H1 := ((InvF.start w).newG 33 #[.int .i64 x, .slice A L.length c] w.heap.size).newG 33 #[.int .i64 y, .slice A' M.length c'] (w.heap.size + 1)
  have hB := H1.bel
  obtain ⟨R, hR⟩ : ∃ R, R = sameTB x y L M := ⟨_, rfl⟩
  rw [← hR]
  unfold sameTB at hR
  have HR := Lib.hid hR
  clear hR
  by_cases c1 : x = y
  case neg =>
    have b1 : (x != y) = true := by rw [bne_iff_ne]; exact c1
    obtain rfl : R = false := by rw [HR.out, beq_eq_false_iff_ne.2 c1]; rfl
    clear c1 H1
    go_enter Try.func14, Try.ntmps14
    go_wp2
    go_ret
    exact ⟨rfl, hB⟩
  have b1 : (x != y) = false := by rw [bne_eq_false_iff_eq]; exact c1
  have HR1 : Hid (R = eqEs L M) := Lib.hid (by rw [HR.out, beq_iff_eq.2 c1, Bool.true_and])
  clear c1 HR
  by_cases hlen : L.length = M.length
  case neg =>
    have hcmp : ((L.length : Int) != (M.length : Int)) = true := by rw [bne_iff_ne]; omega
    obtain rfl : R = false := by rw [HR1.out]; exact eqEs_len hlen
    clear hlen h3 h3' H1
    go_enter Try.func14, Try.ntmps14
    go_wp2
    go_ret
    exact ⟨rfl, hB⟩
  have HLEN := Lib.hid hlen
  rw [← hlen] at h1' h3' H1 ⊢
  have hne : ((L.length : Int) != (L.length : Int)) = false := by simp
  clear hlen hB
  have HI := Lib.hid H1
  go_enter Try.func14, Try.ntmps14
  go_wp2
  clear H1
  go_loopw [25] (fun i wr => ∃ j : Nat, j ≤ L.length ∧ i = .int .i64 (j : Int) ∧ Hid (SameTo L M j) ∧ Hid (InvF w wr [segX 33 (w.heap.size + 1) [.int .i64 y, .slice A' L.length c'], segX 33 w.heap.size [.int .i64 x, .slice A L.length c]]))
    (fun i _ => L.length - (intOf i).toNat)
  case atStart => exact ⟨0, Nat.zero_le _, rfl, Lib.hid SameTo.zero, HI⟩
  case round =>
    clear HI
    obtain ⟨j, hj, rfl, hsame, HJ⟩ := hrel
    by_cases hlt : j < L.length
    · obtain ⟨b, off, rfl, hbb, hcell⟩ := h3 (by omega)
      obtain ⟨b', off', rfl, hbb', hcell'⟩ := h3' (by omega)
      obtain ⟨t, ht⟩ := getE hlt
      have hlw : j < M.length := by have := HLEN.out; omega
      obtain ⟨q, hq⟩ := getE hlw
      have hjl : (j : Int) < (L.length : Int) := by omega
      have HBj := Lib.hid HJ.out.bel
      obtain ⟨y1, g0, g1, g2, s1⟩ := hcell j t ht
      replace g0 := (HBj.out.cell (p := ⟨b, off + j * 3, none⟩) hbb).trans g0
      replace g1 := (HBj.out.cell (p := ⟨b, off + j * 3 + 1, none⟩) hbb).trans g1
      replace g2 := (HBj.out.cell (p := ⟨b, off + j * 3 + 2, none⟩) hbb).trans g2
      obtain ⟨y3, k0, k1, k2, s3⟩ := hcell' j q hq
      obtain ⟨Ay, cy, rfl, _⟩ := id s1
      obtain ⟨Bu, bu, rfl, _⟩ := id s3
      have H1 := HJ.out.newG 53 #[.int .i64 t.x, .int .i64 t.y, .slice Ay t.k.length cy] wr.heap.size
      replace k0 := (H1.bel.cell (p := ⟨b', off' + j * 3, none⟩) hbb').trans k0
      replace k1 := (H1.bel.cell (p := ⟨b', off' + j * 3 + 1, none⟩) hbb').trans k1
      replace k2 := (H1.bel.cell (p := ⟨b', off' + j * 3 + 2, none⟩) hbb').trans k2
      obtain ⟨e0, e1⟩ := H1.c2 (.tail _ (.head _))
      have H2 := H1.newG 53 #[.int .i64 q.x, .int .i64 q.y, .slice Bu q.k.length bu] (wr.heap.size + 1)
      obtain ⟨m0, m1, m2⟩ := H2.c3 (.tail _ (.head _))
      obtain ⟨n0, n1, n2⟩ := H2.c3 (.head _)
      have Q1 := Lib.hid (s1.up H2.bel)
      have Q3 := Lib.hid (s3.up H2.bel)
      have HG2 := Lib.hid (H2.sub (qs := [segX 33 (w.heap.size + 1) [.int .i64 y, .slice (some ⟨b', off', none⟩) L.length c'], segX 33 w.heap.size [.int .i64 x, .slice (some ⟨b, off, none⟩) L.length c]]) (.cons _ (.cons _ (List.Sublist.refl _))))
      have HTJ := Lib.hid ht
      have HUJ := Lib.hid hq
      clear hcell hcell' s1 s3 ht hq H1 H2 HJ HBj
      obtain ⟨tx, ty, tk⟩ := t
      obtain ⟨ux, uy, uk⟩ := q
      dsimp only at *
      have HNO : Hid (∀ h : ¬ (⟨tx, ty, tk⟩ : Et) = ⟨ux, uy, uk⟩, R = false) := Lib.hid (fun h => by rw [HR1.out]; exact eqEs_no HTJ.out HUJ.out h)
      have HYES : Hid ((⟨tx, ty, tk⟩ : Et) = ⟨ux, uy, uk⟩ → SameTo L M (j + 1)) := Lib.hid (fun e => hsame.out.succ HTJ.out (by rw [HUJ.out, e]))
      by_cases d1 : tx = ux
      case neg =>
        have f1 : (tx != ux) = true := by rw [bne_iff_ne]; exact d1
        obtain rfl : R = false := HNO.out (fun e => d1 (by injection e))
        clear d1
        go_wp2
        go_ret
        exact ⟨rfl, HG2.out.bel⟩
      have D1 := Lib.hid d1
      have f1 : (tx != ux) = false := by rw [bne_eq_false_iff_eq]; exact d1
      clear d1
      by_cases d2 : ty = uy
      case neg =>
        have f2 : (ty != uy) = true := by rw [bne_iff_ne]; exact d2
        obtain rfl : R = false := HNO.out (fun e => d2 (by injection e))
        clear d2
        go_wp2
        go_ret
        exact ⟨rfl, HG2.out.bel⟩
      have D2 := Lib.hid d2
      have f2 : (ty != uy) = false := by rw [bne_eq_false_iff_eq]; exact d2
      clear d2
      go_wp2_with fail
      refine (specSameBytes_any _ _ tk uk _ Q1.out Q3.out).mono ?_
      rintro ev _ ⟨rfl, rfl⟩
      obtain ⟨sb, hsb⟩ : ∃ sb, sb = (tk == uk) := ⟨_, rfl⟩
      rw [← hsb]
      have HSB := Lib.hid hsb
      have HG3 := HG2
      clear hsb
      rcases sb with _ | _
      · obtain rfl : R = false := HNO.out (fun e => by
          injection e with _ _ e3
          have := HSB.out
          rw [e3] at this
          simp at this)
        go_wp2
        go_ret
        exact ⟨rfl, HG3.out.bel⟩
      · have HS12 := Lib.hid (HYES.out (by rw [D1.out, D2.out, beq_iff_eq.1 HSB.out.symm]))
        go_wp2
        go_roundw
        case rel => exact ⟨j + 1, by omega, by go_num, HS12, HG3⟩
        case measure => simp [intOf]; omega
    · obtain rfl : j = L.length := by omega
      obtain rfl : R = true := by rw [HR1.out]; exact eqEs_yes HLEN.out hsame.out
      go_wp2
      go_ret
      exact ⟨rfl, HJ.out.bel⟩
end Go.Proofs.Ytickneafppbegaa
