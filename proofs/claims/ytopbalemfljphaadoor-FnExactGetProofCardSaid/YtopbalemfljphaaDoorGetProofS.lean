import Derived.Test.YtopbalemfljphaaDoorHdS
import Derived.Test.YtopbalemfljphaaDoorInvK
import Derived.Test.YtopbalemfljphaaDoorPfDecMath
import Derived.Test.YtopbalemfljphaaDoorGetHeadK
import Derived.Test.YtopbalemfljphaaDoorFitsP
import Derived.Test.YtopbalemfljphaaDoorHdSC
import Derived.Deep.RegionHeld3
import Derived.Deep.RegionLaw
/- A slice of headers that a call appends to: its row lies in blocks from n0 on, the parts of its headers among the segments (partsF). -/
namespace Go.Proofs.YtopbalemfljphaaDoor
open Go.ChangeShapes Go.WideShapes Go.ChangeAt Go.RowKit

def eltH0 (t : Ht) (p : HP) : Elt := (cellsH t p, [])
def eltsH0 (M : List Ht) (ps : List HP) : List Elt := List.zipWith eltH0 M ps
/-- The slice v is the call's own and has the headers M; their parts lie elsewhere. -/
def HdRow (n0 : Nat) (w : World) (v : Value) (M : List Ht) (ps : List HP) : Prop := ps.length = M.length ∧ OwnE (fun b => n0 ≤ b) 78 10 w v (eltsH0 M ps)
/-- The parts of headers, the last one's first. -/
def partsF (M : List Ht) (ps : List HP) : List (List Row) := (List.zipWith rowsH M ps).reverse.flatten
theorem partsF_nil : partsF [] [] = [] := rfl
theorem partsF_snoc {M : List Ht} {ps : List HP} (h : ps.length = M.length) (t : Ht) (p : HP) : partsF (M ++ [t]) (ps ++ [p]) = rowsH t p ++ partsF M ps := by
  unfold partsF
  rw [List.zipWith_append h.symm, List.reverse_append, List.flatten_append]
  simp
theorem partsF_mem {M : List Ht} {ps : List HP} {i : Nat} {t : Ht} {p : HP} (ht : M[i]? = some t) (hp : ps[i]? = some p) {s : List Row} (hs : s ∈ rowsH t p) : s ∈ partsF M ps := by
  unfold partsF
  refine List.mem_flatten.2 ⟨rowsH t p, List.mem_reverse.2 (List.mem_of_getElem? (i := i) ?_), hs⟩
  rw [List.getElem?_zipWith, ht, hp]
theorem rowsE_H0 : ∀ (M : List Ht) (ps : List HP), rowsE (eltsH0 M ps) = []
  | [], _ => by simp [eltsH0, rowsE]
  | _ :: _, [] => by simp [eltsH0, rowsE]
  | t :: M, p :: ps => by
    have h := rowsE_H0 M ps
    unfold eltsH0 at h ⊢
    rw [List.zipWith_cons_cons, rowsE_cons, h]
    rfl
section
variable {n0 : Nat} {w w' : World} {v : Value} {M : List Ht} {ps : List HP}
theorem eltsH0_len (h : ps.length = M.length) : (eltsH0 M ps).length = M.length := by simp [eltsH0, h]
theorem eltsH0_get {i : Nat} {t : Ht} {p : HP} (ht : M[i]? = some t) (hp : ps[i]? = some p) : (eltsH0 M ps)[i]? = some (eltH0 t p) := by
  unfold eltsH0
  rw [List.getElem?_zipWith, ht, hp]
theorem eltsH0_snoc (h : ps.length = M.length) (t : Ht) (p : HP) : eltsH0 (M ++ [t]) (ps ++ [p]) = eltsH0 M ps ++ [(cellsH t p, [])] := by
  unfold eltsH0
  rw [List.zipWith_append h.symm]
  rfl
theorem HdRow.nil_ (n0 : Nat) (w : World) : HdRow n0 w (.slice none 0 0) [] [] := ⟨rfl, OwnE.nil_ _ _ _ _⟩
theorem HdRow.form (H : HdRow n0 w v M ps) : ∃ A c, v = .slice A M.length c := by
  obtain ⟨A, c, e, _⟩ := H.2.form
  exact ⟨A, c, by rw [e, eltsH0_len H.1]⟩
/-- What turns elsewhere leaves it. -/
theorem HdRow.keptF {S : Nat → Prop} (H : HdRow n0 w v M ps) (F : Frm S w w') (hS : ∀ b, n0 ≤ b → b < w.heap.size → ¬ S b) : HdRow n0 w' v M ps := ⟨H.1, H.2.kept (fun b hb hlt => F.block b hlt (hS b hb hlt))⟩
theorem HdRow.sl {W : World} {ss : List (List Row)} (H : HdRow n0 w v M ps) (hk : OkH M ps) (K : InvF W w ss) (hs : ∀ s ∈ partsF M ps, s ∈ ss) : SlH w w.heap.size v M := by
  obtain ⟨hl, H⟩ := H
  have hle := eltsH0_len hl
  obtain ⟨A, c, e, h1, h2, h0, h3⟩ := H.form
  rw [hle] at e h1 h3
  refine ⟨A, c, e, h1, h2, h0, fun hp => ?_⟩
  obtain ⟨b, rfl, hb⟩ := h3 hp
  refine ⟨b, 0, rfl, hb, fun i t ht => ?_⟩
  have hi := (List.getElem?_eq_some_iff.1 ht).1
  obtain ⟨p, hpp⟩ : ∃ p, ps[i]? = some p := ⟨ps[i]'(by omega), List.getElem?_eq_getElem (by omega)⟩
  have hget := eltsH0_get ht hpp
  have hv : v = .slice (some ⟨b, 0, none⟩) (eltsH0 M ps).length c := by rw [e, hle]
  rw [Nat.zero_add]
  have hc := fun j (hj : j < 10) => H.cellE (j := j) hv hget hj
  have hm := fun {s : List Row} (h : s ∈ rowsH t p) => hs s (partsF_mem ht hpp h)
  exact ⟨p.a, p.b, p.qa, p.qb, p.qs, ⟨hc 0 (by decide), hc 1 (by decide), hc 2 (by decide), hc 3 (by decide), hc 4 (by decide), hc 5 (by decide), hc 6 (by decide), hc 7 (by decide), hc 8 (by decide), hc 9 (by decide)⟩,
    K.slB 5 (hm (.head _)), K.slB 5 (hm (.tail _ (.head _))), K.slB 5 (hm (.tail _ (.tail _ (.head _)))), K.slB 5 (hm (.tail _ (.tail _ (.tail _ (.head _))))), K.slS 24 5 (hk.2 i t p ht hpp) (hm (.tail _ (.tail _ (.tail _ (.tail _ (.head _))))))⟩
end
/-- Rows that are no headers' or lie below n0. -/
def Sep (n0 : Nat) (ss : List (List Row)) : Prop := ∀ p ∈ ss.flatten, p.1 ≠ 78 ∨ ∀ b, p.2.1.ownBlock = some b → b < n0
theorem Sep.app {n0 : Nat} {ss qs : List (List Row)} (h : Sep n0 ss) (k : Sep n0 qs) : Sep n0 (ss ++ qs) := fun p hp => by
  rw [List.flatten_append, List.mem_append] at hp
  rcases hp with hp | hp
  · exact h p hp
  · exact k p hp
theorem Sep.box {n0 : Nat} {T : TypeId} {g : Nat} {xs : List Value} {ss : List (List Row)} (hT : T ≠ 78) (h : Sep n0 ss) : Sep n0 (segX T g xs :: ss) := fun p hp => by
  rw [List.flatten_cons, List.mem_append] at hp
  rcases hp with hp | hp
  · simp only [segX, List.mem_singleton] at hp
    subst hp
    exact .inl hT
  · exact h p hp
theorem rowsH_tag {t : Ht} {p : HP} : ∀ q ∈ (rowsH t p).flatten, q.1 ≠ 78 := fun q hq => by
  simp only [rowsH, segB, segS, List.flatten_cons, List.flatten_nil, List.mem_append, List.mem_cons, List.not_mem_nil, or_false] at hq
  rcases hq with rfl | rfl | rfl | rfl | rfl | hq
  · show (5 : TypeId) ≠ 78; decide
  · show (5 : TypeId) ≠ 78; decide
  · show (5 : TypeId) ≠ 78; decide
  · show (5 : TypeId) ≠ 78; decide
  · show (24 : TypeId) ≠ 78; decide
  · unfold rowsS at hq
    obtain ⟨i, hi⟩ := List.getElem?_of_mem hq
    rw [List.getElem?_zipWith] at hi
    rcases h1 : p.vs[i]? with _ | x
    · rw [h1] at hi; cases hi
    · rcases h2 : t.L[i]? with _ | y
      · rw [h1, h2] at hi; cases hi
      · rw [h1, h2] at hi
        cases hi
        show (5 : TypeId) ≠ 78
        decide
theorem Sep.rows {n0 : Nat} (t : Ht) (p : HP) : Sep n0 (rowsH t p) := fun q hq => .inl (rowsH_tag q hq)
theorem Sep.parts (n0 : Nat) (M : List Ht) (ps : List HP) : Sep n0 (partsF M ps) := fun q hq => by
  refine .inl ?_
  unfold partsF at hq
  obtain ⟨s, hs, hqs⟩ := List.mem_flatten.1 hq
  obtain ⟨r, hr, hsr⟩ := List.mem_flatten.1 hs
  obtain ⟨i, hi⟩ := List.getElem?_of_mem (List.mem_reverse.1 hr)
  rw [List.getElem?_zipWith] at hi
  rcases h1 : M[i]? with _ | x
  · rw [h1] at hi; cases hi
  · rcases h2 : ps[i]? with _ | y
    · rw [h1, h2] at hi; cases hi
    · rw [h1, h2] at hi
      cases hi
      exact rowsH_tag q (List.mem_flatten.2 ⟨s, hsr, hqs⟩)
/-- 'append(out, x)' for one header x, within a drawn region: the segments stand. -/
theorem step_appHd {P : Program} {W w : World} {n0 : Nat} {v : Value} {M : List Ht} {ps : List HP} {t0 : Ht} {p : HP} {ss : List (List Row)} {ops : Array Oper} {o : Oper} {a : Act} {K : Act → World → Prop} {Q : Exit → Act → World → Prop} {F : Prop} (hwt : Region.wanted o (yielded ops a.tmps) = true) (x y : Operand) (t : TypeId)
    (ho : o.op = .call { callee := .builtin .append, args := #[x, y], argTypes := #[t, t] }) (i : TypeInfo) (z : Value) (ht : P.underlying t = some (.slice 78)) (hi : P.info? 78 = some i)
    (hz : i.zero = some z) (hzs : z.cells.size = 10) (hsize : i.size = 10) (hby : i.bytes = 160) (cs : List Value) (hcs : cs = cellsH t0 p) (hone : ∀ u ∈ cs, u.oneCell' = true)
    (hs : a.eval x = v) (hx : a.eval y = .slice (some ⟨w.heap.size, 0, none⟩) 1 1) (HR : HdRow n0 w v M ps) (HI : InvF W w ss) (hsep : Sep n0 ss) (hW : W.heap.size ≤ n0) (hn : n0 ≤ w.heap.size) (hlen : M.length ≤ 1073741824)
    (h : ∀ v' w', HdRow n0 w' v' (M ++ [t0]) (ps ++ [p]) → InvF W w' ss → n0 ≤ w'.heap.size → K (a.put o.dst v') w') :
    if Region.wanted o (yielded ops a.tmps) = true then Oper.wp P o a (w.alloc (.cells cs.toArray 78)) K Q else F := by
  have hrow := HR.2.row
  have hat := HR.2.at_
  have Hs : OwnE (fun b => v.ownBlock = some b ∨ w.heap.size ≤ b) 78 10 w v (eltsH0 M ps) := ⟨HR.2.len, hrow, fun g hg => .inl hg, (fun q hq => by rw [rowsE_H0] at hq; cases hq), HR.2.apart⟩
  refine step_appE hwt x y t ho i z 160 ht hi hz hzs hsize hby (by decide) (by decide) cs (by rw [hcs]; rfl) hone hs hx Hs.pend (fun b hb => .inr hb) (by rw [eltsH0_len HR.1]; exact hlen) (fun v' w' H' F' => ?_)
  refine h v' w' ⟨by simp [HR.1], ?_⟩ ?_ (Nat.le_trans hn F'.size)
  · rw [eltsH0_snoc HR.1, ← hcs]
    refine H'.mono (fun b _ hb => ?_)
    rcases hb with hb | hb
    · exact hat b hb
    · exact Nat.le_trans hn hb
  · refine HI.keptF F' (fun b hb => ?_) (fun q hq b hb hS => ?_)
    · rcases hb with hb | hb
      · exact Nat.le_trans hW (hat b hb)
      · exact Nat.le_trans HI.le hb
    · have hq1 := HI.2.1 q hq
      rcases hS with hS | hS
      · rcases hsep q hq with h1 | h1
        · refine h1 ?_
          unfold GOwn at hq1
          rcases hq1.2 with ⟨e, _⟩ | ⟨g1, _, c1, e1, _, k1, _⟩
          · rw [e] at hb; simp [Value.ownBlock] at hb
          · rcases hrow.2 with ⟨e, _⟩ | ⟨g2, _, c2, e2, _, k2, _⟩
            · rw [e] at hS; simp [Value.ownBlock] at hS
            · rw [e1] at hb; rw [e2] at hS
              simp [Value.ownBlock] at hb hS
              subst hb
              subst hS
              rw [k1] at k2
              simp at k2
              exact k2.2
        · have := h1 b hb
          have := hat b hS
          omega
      · have := (hq1.lt b hb).2
        omega
end Go.Proofs.YtopbalemfljphaaDoor
/- GetProof of the model. -/
namespace Go.Proofs.YtopbalemfljphaaDoor
open Go.ChangeShapes Go.WideShapes Go.ChangeAt Go.RowKit
set_option linter.unusedSimpArgs false

theorem l13Get_F (W w : World) (g : Nat) (v : Value) (l : List UInt8) (a b c d f p e0 : Int) (ss : List (List Row)) (H : InvF W w (segX 51 g [v, .int .i64 p, .int .i64 e0] :: ss)) (hv : Sp W W.heap.size v l) (hl : l.length ≤ 1073741824) :
    Calls Tryd.prog 39 #[.pointer (some ⟨g, 0, none⟩), .agg #[.int .i64 a, .int .i64 b, .int .i64 c, .int .i64 d, .int .i64 f]] w (fun ev w' => ∃ ua ub qa qb qs vs, ev = .returned (.agg #[.int .i64 (hdAt l a p e0).x, .int .i64 (hdAt l a p e0).y, .int .i64 (hdAt l a p e0).z, ua, ub, .int .i64 (hdAt l a p e0).q.x, .int .i64 (hdAt l a p e0).q.y, qa, qb, qs]) ∧ vs.length = (hdAt l a p e0).q.L.length ∧
      InvF W w' (segX 51 g [v, .int .i64 (hdAt l a p e0).q.p, .int .i64 (hdAt l a p e0).e] :: segB 5 ua (hdAt l a p e0).m :: segB 5 ub (hdAt l a p e0).k :: segB 5 qa (hdAt l a p e0).q.m :: segB 5 qb (hdAt l a p e0).q.k :: segS 24 5 qs vs (hdAt l a p e0).q.L :: ss) ∧ Frm (fun b => b = g) w w') :=
  (l13Get_K (fun b => b = g ∨ w.heap.size ≤ b) w W w g v l a b c d f p e0 ss ⟨H, Frm.refl _ _⟩ (.inl rfl) (fun _ h => .inr h) hv hl).mono (fun ev w' hh => by
    obtain ⟨u1, u2, u3, u4, u5, vs, h1, h2, h3⟩ := hh
    refine ⟨u1, u2, u3, u4, u5, vs, h1, h2, h3.h, h3.f.monoK (fun b hb hs => ?_)⟩
    rcases hs with hs | hs
    · exact hs
    · omega)
theorem l12Get_F (W w : World) (g : Nat) (v : Value) (l : List UInt8) (a b c d f p e0 : Int) (ss : List (List Row)) (H : InvF W w (segX 51 g [v, .int .i64 p, .int .i64 e0] :: ss)) (hv : Sp W W.heap.size v l) (hl : l.length ≤ 1073741824) :
    Calls Tryd.prog 40 #[.pointer (some ⟨g, 0, none⟩), .agg #[.int .i64 a, .int .i64 b, .int .i64 c, .int .i64 d, .int .i64 f]] w (fun ev w' => ∃ qa qb qs vs, ev = .returned (.agg #[.int .i64 (qcAt l a p e0).x, .int .i64 (qcAt l a p e0).y, qa, qb, qs]) ∧ vs.length = (qcAt l a p e0).L.length ∧
      InvF W w' (segX 51 g [v, .int .i64 (qcAt l a p e0).p, .int .i64 (qcAt l a p e0).e] :: segB 5 qa (qcAt l a p e0).m :: segB 5 qb (qcAt l a p e0).k :: segS 24 5 qs vs (qcAt l a p e0).L :: ss) ∧ Frm (fun b => b = g) w w') :=
  (l12Get_K (fun b => b = g ∨ w.heap.size ≤ b) w W w g v l a b c d f p e0 ss ⟨H, Frm.refl _ _⟩ (.inl rfl) (fun _ h => .inr h) hv hl).mono (fun ev w' hh => by
    obtain ⟨u3, u4, u5, vs, h1, h2, h3⟩ := hh
    refine ⟨u3, u4, u5, vs, h1, h2, h3.h, h3.f.monoK (fun b hb hs => ?_)⟩
    rcases hs with hs | hs
    · exact hs
    · omega)
theorem pfNotLt {y x : Int} : (!decide (x < y)) = decide (y ≤ x) := by
  by_cases hc : y ≤ x
  · rw [decide_eq_true hc, decide_eq_false (by omega)]; rfl
  · rw [decide_eq_false hc, decide_eq_true (by omega)]; rfl
/-- A commit proof has been decoded: what it reads as where there was no error, and the decoder behind it. -/
def DecPfS (W w : World) (g : Nat) (v : Value) (r : PfAt) (ss : List (List Row)) (ev : Ending) (w' : World) : Prop :=
  ∃ (Ah : Option Addr) (nh ch : Nat) (qx qy : Int) (Aa : Option Addr) (na ca : Nat) (Ab : Option Addr) (nb cb : Nat) (As : Option Addr) (ns cs : Nat) (p : Int),
    ev = .returned (.agg #[.slice Ah nh ch, .int .i64 qx, .int .i64 qy, .slice Aa na ca, .slice Ab nb cb, .slice As ns cs]) ∧ InvF W w' (segX 51 g [v, .int .i64 p, .int .i64 r.e] :: ss) ∧
    (r.e = 0 → qx = r.q.x ∧ qy = r.q.y ∧ p = r.q.p ∧ ∃ (n0 : Nat) (ps : List HP) (vs : List Value), w.heap.size ≤ n0 ∧ OkH r.M ps ∧ HdRow n0 w' (.slice Ah nh ch) r.M ps ∧ vs.length = r.q.L.length ∧
      InvF W w' (segX 51 g [v, .int .i64 p, .int .i64 r.e] :: segB 5 (.slice Aa na ca) r.q.m :: segB 5 (.slice Ab nb cb) r.q.k :: segS 24 5 (.slice As ns cs) vs r.q.L :: (partsF r.M ps ++ ss)))

set_option maxRecDepth 100000 in
set_option maxHeartbeats 16000000 in
theorem l16Get_any (W w : World) (g : Nat) (v : Value) (l : List UInt8) (a b c0 d f p e0 : Int) (ss : List (List Row)) (H : InvF W w (segX 51 g [v, .int .i64 p, .int .i64 e0] :: ss)) (hv : Sp W W.heap.size v l) (hl : l.length ≤ 1073741824) (hN : e0 = 0 → f ≤ 5) :
    Calls Tryd.prog 20 #[.pointer (some ⟨g, 0, none⟩), .agg #[.int .i64 a, .int .i64 b, .int .i64 c0, .int .i64 d, .int .i64 f]] w (DecPfS W w g v (pfAt l a f p e0) ss) := by
  obtain ⟨i0, hi, hz0, hz1, hz2⟩ := info_parts hinfo
  have HV := Lib.hid hv
  obtain ⟨A, m, rfl, kk⟩ := hv.sl
  clear kk hv
  obtain ⟨c, hc⟩ : ∃ x, x = nV l p e0 := ⟨_, rfl⟩
  obtain ⟨p1, hp1⟩ : ∃ x, x = nP l p e0 := ⟨_, rfl⟩
  obtain ⟨e1, he1⟩ : ∃ x, x = nE l p e0 := ⟨_, rfl⟩
  obtain ⟨g1, hg1⟩ : ∃ x, x = fE e1 (decide (3 ≤ c)) 5 := ⟨_, rfl⟩
  obtain ⟨e2, he2⟩ : ∃ x, x = fE g1 (decide (c ≤ f)) 3 := ⟨_, rfl⟩
  have hr : pfAt l a f p e0 = pfRest l a (hdsAt l a p1 e2 (pfN c e2)) := by
    unfold pfAt pfE
    rw [← hp1, ← hc, ← he1, ← hg1, ← he2]
  rw [hr]
  obtain ⟨R, hR⟩ : ∃ R, R = pfRest l a (hdsAt l a p1 e2 (pfN c e2)) := ⟨_, rfl⟩
  rw [← hR]
  have hc0 : 0 ≤ c := by rw [hc]; exact nV_lo _ _ _
  have HCN : Hid (e2 = 0 → c ≤ 5 ∧ 3 ≤ c) := Lib.hid (fun h => by
    have h1 := in_fE (by decide) (he2.symm.trans h)
    have h2 := in_fE (by decide) (hg1.symm.trans h1.1)
    have h0 := in_nE (he1.symm.trans h2.1)
    have h3 := of_decide_eq_true h1.2
    have h4 := of_decide_eq_true h2.2
    have := hN h0
    omega)
  have HRE : Hid (∀ j : Nat, (j : Int) ≤ c → (hdsAt l a p1 e2 j).2.2 ≠ 0 → R.e = (hdsAt l a p1 e2 j).2.2) := Lib.hid (fun j hj h => by
    by_cases he : e2 = 0
    · have hk := hdsAt_err h (c.toNat - j)
      rw [show j + (c.toNat - j) = c.toNat by omega] at hk
      have h9 : pfN c e2 = c.toNat := if_pos he
      rw [hR, h9, pfRest_err (by rw [hk]; exact h), hk]
    · have h9 : pfN c e2 = 0 := if_neg he
      have hk := hdsAt_err (l := l) (n := a) (p := p1) (e := e2) (j := 0) he j
      rw [Nat.zero_add] at hk
      rw [hR, h9, pfRest_err he, hk])
  have HRF : Hid ((hdsAt l a p1 e2 c.toNat).2.2 = 0 → R = pfRest l a (hdsAt l a p1 e2 c.toNat) ∧ e2 = 0) := Lib.hid (fun h => by
    have h9 : e2 = 0 := hdsAt_zero h
    refine ⟨?_, h9⟩
    rw [hR]
    unfold pfN
    rw [if_pos h9])
  have S1 := Lib.hid (And.intro hc (And.intro hp1 he1))
  have S2 := Lib.hid hg1
  have S3 := Lib.hid he2
  clear hr hR hc hp1 he1 hg1 he2 hN
  have HSS : Hid (∀ q ∈ ss.flatten, ∀ b, q.2.1.ownBlock = some b → b < w.heap.size) := Lib.hid (fun q hq b hb => ((H.2.1 q (by rw [List.flatten_cons]; exact List.mem_append_right _ hq)).lt b hb).2)
  have HGW : Hid (g < w.heap.size ∧ W.heap.size ≤ w.heap.size) := Lib.hid ⟨H.ltX (.head _), H.le⟩
  have Ha : InvF W _ (segX 51 g [.slice A l.length m, .int .i64 p, .int .i64 e0] :: segX 33 w.heap.size [.int .i64 a, .int .i64 b, .int .i64 c0, .int .i64 d, .int .i64 f] :: ss) := (H.newG 33 #[.int .i64 a, .int .i64 b, .int .i64 c0, .int .i64 d, .int .i64 f] w.heap.size rfl).front 1 rfl
  have Hb : InvF W _ (segX 51 g [.slice A l.length m, .int .i64 p, .int .i64 e0] :: segX 30 (w.heap.size + 1) [.slice none 0 0, .int .i64 0, .int .i64 0, .slice none 0 0, .slice none 0 0, .slice none 0 0] :: segX 33 w.heap.size [.int .i64 a, .int .i64 b, .int .i64 c0, .int .i64 d, .int .i64 f] :: ss) := (Ha.newG 30 #[.slice none 0 0, .int .i64 0, .int .i64 0, .slice none 0 0, .slice none 0 0, .slice none 0 0] (w.heap.size + 1)).front 1 rfl
  have H1 : InvF W _ (segX 51 g [.slice A l.length m, .int .i64 p, .int .i64 e0] :: segX 30 (w.heap.size + 2) [.slice none 0 0, .int .i64 0, .int .i64 0, .slice none 0 0, .slice none 0 0, .slice none 0 0] :: segX 30 (w.heap.size + 1) [.slice none 0 0, .int .i64 0, .int .i64 0, .slice none 0 0, .slice none 0 0, .slice none 0 0] :: segX 33 w.heap.size [.int .i64 a, .int .i64 b, .int .i64 c0, .int .i64 d, .int .i64 f] :: ss) := (Hb.newG 30 #[.slice none 0 0, .int .i64 0, .int .i64 0, .slice none 0 0, .slice none 0 0, .slice none 0 0] (w.heap.size + 2)).front 1 rfl
  clear Ha Hb H
  go_enter Tryd.func20, Tryd.ntmps20
  go_wp2_with fail
  refine (l11Var_F W _ g _ l p e0 _ H1 HV.out (by omega)).mono ?_
  rw [← S1.out.1, ← S1.out.2.1, ← S1.out.2.2]
  rintro ev w2 ⟨rfl, H2, F2⟩
  replace H2 : InvF W w2 (segX 51 g [.slice A l.length m, .int .i64 p1, .int .i64 e1] :: segX 30 (w.heap.size + 2) [.slice none 0 0, .int .i64 0, .int .i64 0, .slice none 0 0, .slice none 0 0, .slice none 0 0] :: segX 30 (w.heap.size + 1) [.slice none 0 0, .int .i64 0, .int .i64 0, .slice none 0 0, .slice none 0 0, .slice none 0 0] :: segX 33 w.heap.size [.int .i64 a, .int .i64 b, .int .i64 c0, .int .i64 d, .int .i64 f] :: ss) := H2
  have hz2' := F2.size
  clear H1 F2
  go_wp2_with fail
  have hcall := l11Fail_F W _ g _ p1 e1 5 (decide (c < 3)) _ H2
  rw [pfNotLt, ← S2.out] at hcall
  refine hcall.mono ?_
  rintro ev w3 ⟨rfl, H3, F3⟩
  replace H3 : InvF W w3 (segX 51 g [.slice A l.length m, .int .i64 p1, .int .i64 g1] :: segX 30 (w.heap.size + 2) [.slice none 0 0, .int .i64 0, .int .i64 0, .slice none 0 0, .slice none 0 0, .slice none 0 0] :: segX 30 (w.heap.size + 1) [.slice none 0 0, .int .i64 0, .int .i64 0, .slice none 0 0, .slice none 0 0, .slice none 0 0] :: segX 33 w.heap.size [.int .i64 a, .int .i64 b, .int .i64 c0, .int .i64 d, .int .i64 f] :: ss) := H3
  clear H2 F3 hcall hz2'
  obtain ⟨t0, t1, t2, t3, t4⟩ := H3.c5 (.tail _ (.tail _ (.tail _ (.head _))))
  go_wp2_with fail
  have hcall := l11Fail_F W _ g _ p1 g1 3 (decide (f < c)) _ H3
  rw [pfNotLt, ← S3.out] at hcall
  refine hcall.mono ?_
  rintro ev w5 ⟨rfl, H5, F5⟩
  replace H5 : InvF W w5 (segX 51 g [.slice A l.length m, .int .i64 p1, .int .i64 e2] :: segX 30 (w.heap.size + 2) [.slice none 0 0, .int .i64 0, .int .i64 0, .slice none 0 0, .slice none 0 0, .slice none 0 0] :: segX 30 (w.heap.size + 1) [.slice none 0 0, .int .i64 0, .int .i64 0, .slice none 0 0, .slice none 0 0, .slice none 0 0] :: segX 33 w.heap.size [.int .i64 a, .int .i64 b, .int .i64 c0, .int .i64 d, .int .i64 f] :: ss) := H5
  clear H3 F5 hcall t0 t1 t2 t3 t4 S1 S2 S3
  obtain ⟨n0, hn0⟩ : ∃ n0, n0 = w5.heap.size := ⟨_, rfl⟩
  have HB3 : Hid (w.heap.size + 2 < n0) := Lib.hid (by rw [hn0]; exact H5.ltX (.tail _ (.head _)))
  have HW0 : Hid (W.heap.size ≤ n0 ∧ g < n0) := Lib.hid (by have := HGW.out; have := HB3.out; omega)
  have HSEP : Hid (Sep n0 ss) := Lib.hid (fun q hq => .inr (fun b hb => by have := HSS.out q hq b hb; have := HB3.out; omega))
  have HY : Hid (HdRow n0 w5 (.slice none 0 0) [] []) := Lib.hid (HdRow.nil_ _ _)
  have HN5 : Hid (n0 ≤ w5.heap.size) := Lib.hid (Nat.le_of_eq hn0)
  have HK : Hid (InvF W w5 (segX 51 g [.slice A l.length m, .int .i64 (hdsAt l a p1 e2 0).2.1, .int .i64 (hdsAt l a p1 e2 0).2.2] :: segX 30 (w.heap.size + 2) [.slice none 0 0, .int .i64 0, .int .i64 0, .slice none 0 0, .slice none 0 0, .slice none 0 0] :: segX 30 (w.heap.size + 1) [.slice none 0 0, .int .i64 0, .int .i64 0, .slice none 0 0, .slice none 0 0, .slice none 0 0] :: segX 33 w.heap.size [.int .i64 a, .int .i64 b, .int .i64 c0, .int .i64 d, .int .i64 f] :: (partsF (hdsAt l a p1 e2 0).1 [] ++ ss))) := Lib.hid H5
  clear hn0 H5 HSS HGW
  go_wp2
  go_loopw [7] (fun i wr => ∃ (j : Nat) (At : Option Addr) (ct : Nat) (ps : List HP), (j : Int) ≤ c ∧ i = .int .i64 (j : Int) ∧ Hid (OkH (hdsAt l a p1 e2 j).1 ps) ∧ Hid (HdRow n0 wr (.slice At j ct) (hdsAt l a p1 e2 j).1 ps) ∧ Hid (n0 ≤ wr.heap.size) ∧ Hid (InvF W wr (segX 51 g [.slice A l.length m, .int .i64 (hdsAt l a p1 e2 j).2.1, .int .i64 (hdsAt l a p1 e2 j).2.2] :: segX 30 (w.heap.size + 2) [.slice At j ct, .int .i64 0, .int .i64 0, .slice none 0 0, .slice none 0 0, .slice none 0 0] :: segX 30 (w.heap.size + 1) [.slice none 0 0, .int .i64 0, .int .i64 0, .slice none 0 0, .slice none 0 0, .slice none 0 0] :: segX 33 w.heap.size [.int .i64 a, .int .i64 b, .int .i64 c0, .int .i64 d, .int .i64 f] :: (partsF (hdsAt l a p1 e2 j).1 ps ++ ss))))
    (fun i _ => c.toNat - (intOf i).toNat)
  case atStart => exact ⟨0, none, 0, [], hc0, rfl, Lib.hid OkH.nil_, HY, HN5, HK⟩
  case round =>
    clear HY HK HN5
    obtain ⟨j, At, ct, ps, hj, rfl, HOK, HY, HWR, Hj⟩ := hrel
    have HLEN := Lib.hid (hdsAt_len l a p1 e2 j)
    have HEJ := Lib.hid (HRE.out j hj)
    have HFJ : Hid ((j : Int) = c → (hdsAt l a p1 e2 j).2.2 = 0 → R = pfRest l a (hdsAt l a p1 e2 j) ∧ e2 = 0) := Lib.hid (fun h => by
      have := HRF.out
      rw [show c.toNat = j by omega] at this
      exact this)
    have HZJ : Hid ((hdsAt l a p1 e2 j).2.2 = 0 → e2 = 0) := Lib.hid hdsAt_zero
    have HSTEP : Hid (hdsAt l a p1 e2 (j + 1) = ((hdsAt l a p1 e2 j).1 ++ [htOf (hdAt l a (hdsAt l a p1 e2 j).2.1 (hdsAt l a p1 e2 j).2.2)], (hdAt l a (hdsAt l a p1 e2 j).2.1 (hdsAt l a p1 e2 j).2.2).q.p, (hdAt l a (hdsAt l a p1 e2 j).2.1 (hdsAt l a p1 e2 j).2.2).e)) := Lib.hid rfl
    generalize hsj : hdsAt l a p1 e2 j = sj at *
    obtain ⟨M, pj, ej⟩ := sj
    clear hsj
    dsimp only at HOK HY Hj HLEN HEJ HFJ HZJ HSTEP
    have q2 := Hj.out.atX (.head _) 2 rfl
    by_cases hej : ej = 0
    case neg =>
      have hne : (ej == 0) = false := by simpa using hej
      have HNE := Lib.hid hej
      clear hej
      by_cases hlt : (j : Int) < c
      · skip
        obtain ⟨t0, t1, t2, t3, t4⟩ := Hj.out.c5 (.tail _ (.tail _ (.tail _ (.head _))))
        go_wp2_with fail
        have hcall := l12Get_F W _ g _ l a b c0 d f pj ej _ Hj.out HV.out hl
        obtain ⟨q, hq⟩ : ∃ q, q = qcAt l a pj ej := ⟨_, rfl⟩
        rw [← hq] at hcall
        have HQE : Hid (q.e = ej) := Lib.hid (by rw [hq]; exact qcAt_err HNE.out)
        clear hq
        obtain ⟨qx, qy, qm, qk, qL, qp, qe⟩ := q
        dsimp only at hcall HQE
        refine hcall.mono ?_
        clear hcall
        rintro ev w6 ⟨u1, u2, u3, vs, rfl, hvs, H6, F6⟩
        clear t0 t1 t2 t3 t4
        obtain ⟨B1, d1, rfl⟩ := H6.openB' (.tail _ (.head _))
        obtain ⟨B2, d2, rfl⟩ := H6.openB' (.tail _ (.tail _ (.head _)))
        obtain ⟨B3, d3, rfl⟩ := H6.openS hvs (.tail _ (.tail _ (.tail _ (.head _))))
        have HVS := Lib.hid hvs
        clear hvs
        have HY6 : Hid (HdRow n0 w6 (.slice At j ct) M ps) := Lib.hid (HY.out.keptF F6 (fun b hb _ e => by have := HW0.out.2; omega))
        have HW6 : Hid (n0 ≤ w6.heap.size) := Lib.hid (Nat.le_trans HWR.out F6.size)
        clear F6
        have hT1 := H6.thereX (.tail _ (.tail _ (.tail _ (.tail _ (.head _))))) 1 5 (by simp)
        have K1 : InvF W (w6.setCells (w.heap.size + 2) 1 [.int .i64 qx, .int .i64 qy, .slice B1 qm.length d1, .slice B2 qk.length d2, .slice B3 qL.length d3]) (segX 51 g [.slice A l.length m, .int .i64 qp, .int .i64 qe] :: segX 30 (w.heap.size + 2) [.slice At j ct, .int .i64 qx, .int .i64 qy, .slice B1 qm.length d1, .slice B2 qk.length d2, .slice B3 qL.length d3] :: segB 5 (.slice B1 qm.length d1) qm :: segB 5 (.slice B2 qk.length d2) qk :: segS 24 5 (.slice B3 qL.length d3) vs qL :: segX 30 (w.heap.size + 1) [.slice none 0 0, .int .i64 0, .int .i64 0, .slice none 0 0, .slice none 0 0, .slice none 0 0] :: segX 33 w.heap.size [.int .i64 a, .int .i64 b, .int .i64 c0, .int .i64 d, .int .i64 f] :: (partsF M ps ++ ss)) := ((H6.front 4 rfl).sets5x1 (.int .i64 qx) (.int .i64 qy) (.slice B1 qm.length d1) (.slice B2 qk.length d2) (.slice B3 qL.length d3)).front 1 rfl
        have HY7 : Hid (HdRow n0 (w6.setCells (w.heap.size + 2) 1 [.int .i64 qx, .int .i64 qy, .slice B1 qm.length d1, .slice B2 qk.length d2, .slice B3 qL.length d3]) (.slice At j ct) M ps) := Lib.hid (HY6.out.keptF (Frm.setsL (S := fun b => b = w.heap.size + 2) rfl _ 1 w6 _ (H6.front 4 rfl) (Frm.refl _ _)) (fun b hb _ e => by have := HB3.out; omega))
        have hR1 := K1.rangeX (.tail _ (.head _))
        have q2' := K1.atX (.head _) 2 rfl
        clear H6 HY6 q2
        go_simp
        go_step
        go_step
        go_step
        go_step
        refine wpList_store_mid rfl 28 (.tmp 44) (.tmp 43) rfl (w.heap.size + 2) 1 #[.int .i64 qx, .int .i64 qy, .slice B1 qm.length d1, .slice B2 qk.length d2, .slice B3 qL.length d3] rfl rfl hT1 (by kernel_rfl) (by simp [Value.oneCell']) ?_
        generalize w6.setCells (w.heap.size + 2) 1 [.int .i64 qx, .int .i64 qy, .slice B1 qm.length d1, .slice B2 qk.length d2, .slice B3 qL.length d3] = w7 at *
        have HK1 := Lib.hid K1
        clear K1 hR1 hT1
        have HRe : Hid (R.e = qe) := Lib.hid (by rw [HEJ.out HNE.out, HQE.out])
        have hne2 : (qe == 0) = false := by rw [show qe = ej from HQE.out]; exact hne
        have HE0 : Hid (R.e ≠ 0) := Lib.hid (by rw [HEJ.out HNE.out]; exact HNE.out)
        obtain ⟨o0, o1, o2, o3, o4, o5⟩ := HK1.out.c6 (.tail _ (.head _))
        obtain ⟨r0, r1, r2, r3, r4, r5⟩ := HK1.out.c6 (.tail _ (.tail _ (.tail _ (.tail _ (.tail _ (.head _))))))
        obtain ⟨s0, s1, s2, s3, s4, s5⟩ := HK1.out.f6 (.tail _ (.tail _ (.tail _ (.tail _ (.tail _ (.head _))))))
        have h6 := HK1.out.ltX (.tail _ (.head _))
        have h7 := HK1.out.ltX (.tail _ (.tail _ (.tail _ (.tail _ (.tail _ (.head _))))))
        go_wp2
        refine bodyPost_ret (v := .agg #[.slice At j ct, .int .i64 qx, .int .i64 qy, .slice B1 qm.length d1, .slice B2 qk.length d2, .slice B3 qL.length d3]) (by simp [results, Tryd.results20, go_sem, r0, r1, r2, r3, r4, r5]) rfl ⟨_, _, _, _, _, _, _, _, _, _, _, _, _, _, qp, rfl, ?_, ?_⟩
        · rw [HRe.out]
          exact ((HK1.out.front 5 rfl).over6 (.slice At j ct) (.int .i64 qx) (.int .i64 qy) (.slice B1 qm.length d1) (.slice B2 qk.length d2) (.slice B3 qL.length d3)).sub (.cons _ (.cons_cons _ (.cons _ (.cons _ (.cons _ (.cons _ (.cons _ (List.sublist_append_right _ _))))))))
        · exact fun h => absurd h HE0.out
      · have d0 : decide ((j : Int) < c) = false := decide_eq_false hlt
        obtain ⟨t0, t1, t2, t3, t4⟩ := Hj.out.c5 (.tail _ (.tail _ (.tail _ (.head _))))
        go_wp2_with fail
        have hcall := l12Get_F W _ g _ l a b c0 d f pj ej _ Hj.out HV.out hl
        obtain ⟨q, hq⟩ : ∃ q, q = qcAt l a pj ej := ⟨_, rfl⟩
        rw [← hq] at hcall
        have HQE : Hid (q.e = ej) := Lib.hid (by rw [hq]; exact qcAt_err HNE.out)
        clear hq
        obtain ⟨qx, qy, qm, qk, qL, qp, qe⟩ := q
        dsimp only at hcall HQE
        refine hcall.mono ?_
        clear hcall
        rintro ev w6 ⟨u1, u2, u3, vs, rfl, hvs, H6, F6⟩
        clear t0 t1 t2 t3 t4
        obtain ⟨B1, d1, rfl⟩ := H6.openB' (.tail _ (.head _))
        obtain ⟨B2, d2, rfl⟩ := H6.openB' (.tail _ (.tail _ (.head _)))
        obtain ⟨B3, d3, rfl⟩ := H6.openS hvs (.tail _ (.tail _ (.tail _ (.head _))))
        have HVS := Lib.hid hvs
        clear hvs
        have HY6 : Hid (HdRow n0 w6 (.slice At j ct) M ps) := Lib.hid (HY.out.keptF F6 (fun b hb _ e => by have := HW0.out.2; omega))
        have HW6 : Hid (n0 ≤ w6.heap.size) := Lib.hid (Nat.le_trans HWR.out F6.size)
        clear F6
        have hT1 := H6.thereX (.tail _ (.tail _ (.tail _ (.tail _ (.head _))))) 1 5 (by simp)
        have K1 : InvF W (w6.setCells (w.heap.size + 2) 1 [.int .i64 qx, .int .i64 qy, .slice B1 qm.length d1, .slice B2 qk.length d2, .slice B3 qL.length d3]) (segX 51 g [.slice A l.length m, .int .i64 qp, .int .i64 qe] :: segX 30 (w.heap.size + 2) [.slice At j ct, .int .i64 qx, .int .i64 qy, .slice B1 qm.length d1, .slice B2 qk.length d2, .slice B3 qL.length d3] :: segB 5 (.slice B1 qm.length d1) qm :: segB 5 (.slice B2 qk.length d2) qk :: segS 24 5 (.slice B3 qL.length d3) vs qL :: segX 30 (w.heap.size + 1) [.slice none 0 0, .int .i64 0, .int .i64 0, .slice none 0 0, .slice none 0 0, .slice none 0 0] :: segX 33 w.heap.size [.int .i64 a, .int .i64 b, .int .i64 c0, .int .i64 d, .int .i64 f] :: (partsF M ps ++ ss)) := ((H6.front 4 rfl).sets5x1 (.int .i64 qx) (.int .i64 qy) (.slice B1 qm.length d1) (.slice B2 qk.length d2) (.slice B3 qL.length d3)).front 1 rfl
        have HY7 : Hid (HdRow n0 (w6.setCells (w.heap.size + 2) 1 [.int .i64 qx, .int .i64 qy, .slice B1 qm.length d1, .slice B2 qk.length d2, .slice B3 qL.length d3]) (.slice At j ct) M ps) := Lib.hid (HY6.out.keptF (Frm.setsL (S := fun b => b = w.heap.size + 2) rfl _ 1 w6 _ (H6.front 4 rfl) (Frm.refl _ _)) (fun b hb _ e => by have := HB3.out; omega))
        have hR1 := K1.rangeX (.tail _ (.head _))
        have q2' := K1.atX (.head _) 2 rfl
        clear H6 HY6 q2
        go_simp
        go_step
        go_step
        go_step
        go_step
        refine wpList_store_mid rfl 28 (.tmp 44) (.tmp 43) rfl (w.heap.size + 2) 1 #[.int .i64 qx, .int .i64 qy, .slice B1 qm.length d1, .slice B2 qk.length d2, .slice B3 qL.length d3] rfl rfl hT1 (by kernel_rfl) (by simp [Value.oneCell']) ?_
        generalize w6.setCells (w.heap.size + 2) 1 [.int .i64 qx, .int .i64 qy, .slice B1 qm.length d1, .slice B2 qk.length d2, .slice B3 qL.length d3] = w7 at *
        have HK1 := Lib.hid K1
        clear K1 hR1 hT1
        have HRe : Hid (R.e = qe) := Lib.hid (by rw [HEJ.out HNE.out, HQE.out])
        have hne2 : (qe == 0) = false := by rw [show qe = ej from HQE.out]; exact hne
        have HE0 : Hid (R.e ≠ 0) := Lib.hid (by rw [HEJ.out HNE.out]; exact HNE.out)
        obtain ⟨o0, o1, o2, o3, o4, o5⟩ := HK1.out.c6 (.tail _ (.head _))
        obtain ⟨r0, r1, r2, r3, r4, r5⟩ := HK1.out.c6 (.tail _ (.tail _ (.tail _ (.tail _ (.tail _ (.head _))))))
        obtain ⟨s0, s1, s2, s3, s4, s5⟩ := HK1.out.f6 (.tail _ (.tail _ (.tail _ (.tail _ (.tail _ (.head _))))))
        have h6 := HK1.out.ltX (.tail _ (.head _))
        have h7 := HK1.out.ltX (.tail _ (.tail _ (.tail _ (.tail _ (.tail _ (.head _))))))
        go_wp2
        refine bodyPost_ret (v := .agg #[.slice At j ct, .int .i64 qx, .int .i64 qy, .slice B1 qm.length d1, .slice B2 qk.length d2, .slice B3 qL.length d3]) (by simp [results, Tryd.results20, go_sem, r0, r1, r2, r3, r4, r5]) rfl ⟨_, _, _, _, _, _, _, _, _, _, _, _, _, _, qp, rfl, ?_, ?_⟩
        · rw [HRe.out]
          exact ((HK1.out.front 5 rfl).over6 (.slice At j ct) (.int .i64 qx) (.int .i64 qy) (.slice B1 qm.length d1) (.slice B2 qk.length d2) (.slice B3 qL.length d3)).sub (.cons _ (.cons_cons _ (.cons _ (.cons _ (.cons _ (.cons _ (.cons _ (List.sublist_append_right _ _))))))))
        · exact fun h => absurd h HE0.out
    subst hej
    by_cases hlt : (j : Int) < c
    case neg =>
      have d0 : decide ((j : Int) < c) = false := decide_eq_false hlt
      obtain ⟨t0, t1, t2, t3, t4⟩ := Hj.out.c5 (.tail _ (.tail _ (.tail _ (.head _))))
      go_wp2_with fail
      have hcall := l12Get_F W _ g _ l a b c0 d f pj 0 _ Hj.out HV.out hl
      obtain ⟨q, hq⟩ : ∃ q, q = qcAt l a pj 0 := ⟨_, rfl⟩
      rw [← hq] at hcall
      have HQ := Lib.hid hq
      clear hq
      obtain ⟨qx, qy, qm, qk, qL, qp, qe⟩ := q
      dsimp only at hcall 
      refine hcall.mono ?_
      clear hcall
      rintro ev w6 ⟨u1, u2, u3, vs, rfl, hvs, H6, F6⟩
      clear t0 t1 t2 t3 t4
      obtain ⟨B1, d1, rfl⟩ := H6.openB' (.tail _ (.head _))
      obtain ⟨B2, d2, rfl⟩ := H6.openB' (.tail _ (.tail _ (.head _)))
      obtain ⟨B3, d3, rfl⟩ := H6.openS hvs (.tail _ (.tail _ (.tail _ (.head _))))
      have HVS := Lib.hid hvs
      clear hvs
      have HY6 : Hid (HdRow n0 w6 (.slice At j ct) M ps) := Lib.hid (HY.out.keptF F6 (fun b hb _ e => by have := HW0.out.2; omega))
      have HW6 : Hid (n0 ≤ w6.heap.size) := Lib.hid (Nat.le_trans HWR.out F6.size)
      clear F6
      have hT1 := H6.thereX (.tail _ (.tail _ (.tail _ (.tail _ (.head _))))) 1 5 (by simp)
      have K1 : InvF W (w6.setCells (w.heap.size + 2) 1 [.int .i64 qx, .int .i64 qy, .slice B1 qm.length d1, .slice B2 qk.length d2, .slice B3 qL.length d3]) (segX 51 g [.slice A l.length m, .int .i64 qp, .int .i64 qe] :: segX 30 (w.heap.size + 2) [.slice At j ct, .int .i64 qx, .int .i64 qy, .slice B1 qm.length d1, .slice B2 qk.length d2, .slice B3 qL.length d3] :: segB 5 (.slice B1 qm.length d1) qm :: segB 5 (.slice B2 qk.length d2) qk :: segS 24 5 (.slice B3 qL.length d3) vs qL :: segX 30 (w.heap.size + 1) [.slice none 0 0, .int .i64 0, .int .i64 0, .slice none 0 0, .slice none 0 0, .slice none 0 0] :: segX 33 w.heap.size [.int .i64 a, .int .i64 b, .int .i64 c0, .int .i64 d, .int .i64 f] :: (partsF M ps ++ ss)) := ((H6.front 4 rfl).sets5x1 (.int .i64 qx) (.int .i64 qy) (.slice B1 qm.length d1) (.slice B2 qk.length d2) (.slice B3 qL.length d3)).front 1 rfl
      have HY7 : Hid (HdRow n0 (w6.setCells (w.heap.size + 2) 1 [.int .i64 qx, .int .i64 qy, .slice B1 qm.length d1, .slice B2 qk.length d2, .slice B3 qL.length d3]) (.slice At j ct) M ps) := Lib.hid (HY6.out.keptF (Frm.setsL (S := fun b => b = w.heap.size + 2) rfl _ 1 w6 _ (H6.front 4 rfl) (Frm.refl _ _)) (fun b hb _ e => by have := HB3.out; omega))
      have hR1 := K1.rangeX (.tail _ (.head _))
      have q2' := K1.atX (.head _) 2 rfl
      clear H6 HY6 q2
      go_simp
      go_step
      go_step
      go_step
      go_step
      refine wpList_store_mid rfl 28 (.tmp 44) (.tmp 43) rfl (w.heap.size + 2) 1 #[.int .i64 qx, .int .i64 qy, .slice B1 qm.length d1, .slice B2 qk.length d2, .slice B3 qL.length d3] rfl rfl hT1 (by kernel_rfl) (by simp [Value.oneCell']) ?_
      generalize w6.setCells (w.heap.size + 2) 1 [.int .i64 qx, .int .i64 qy, .slice B1 qm.length d1, .slice B2 qk.length d2, .slice B3 qL.length d3] = w7 at *
      have HK1 := Lib.hid K1
      clear K1 hR1 hT1
      have HRq : Hid (R = ⟨M, ⟨qx, qy, qm, qk, qL, qp, qe⟩, fE qe (lastB M qx qy) 6⟩) := Lib.hid (by rw [(HFJ.out (by omega) (by first | trivial | rfl)).1]; unfold pfRest; dsimp only; rw [← HQ.out])
      have HL3 : Hid (0 < M.length) := Lib.hid (by have := HCN.out (HZJ.out (by first | trivial | rfl)); have := HLEN.out; omega)
      by_cases hqe : qe = 0
      case neg =>
        have hne2 : (qe == 0) = false := by simpa using hqe
        have HRe : Hid (R.e = qe) := Lib.hid (by rw [HRq.out]; exact fE_no hqe _ _)
        have HE0 : Hid (R.e ≠ 0) := Lib.hid (by rw [HRe.out]; exact hqe)
        clear hqe
        obtain ⟨o0, o1, o2, o3, o4, o5⟩ := HK1.out.c6 (.tail _ (.head _))
        obtain ⟨r0, r1, r2, r3, r4, r5⟩ := HK1.out.c6 (.tail _ (.tail _ (.tail _ (.tail _ (.tail _ (.head _))))))
        obtain ⟨s0, s1, s2, s3, s4, s5⟩ := HK1.out.f6 (.tail _ (.tail _ (.tail _ (.tail _ (.tail _ (.head _))))))
        have h6 := HK1.out.ltX (.tail _ (.head _))
        have h7 := HK1.out.ltX (.tail _ (.tail _ (.tail _ (.tail _ (.tail _ (.head _))))))
        go_wp2
        refine bodyPost_ret (v := .agg #[.slice At j ct, .int .i64 qx, .int .i64 qy, .slice B1 qm.length d1, .slice B2 qk.length d2, .slice B3 qL.length d3]) (by simp [results, Tryd.results20, go_sem, r0, r1, r2, r3, r4, r5]) rfl ⟨_, _, _, _, _, _, _, _, _, _, _, _, _, _, qp, rfl, ?_, ?_⟩
        · rw [HRe.out]
          exact ((HK1.out.front 5 rfl).over6 (.slice At j ct) (.int .i64 qx) (.int .i64 qy) (.slice B1 qm.length d1) (.slice B2 qk.length d2) (.slice B3 qL.length d3)).sub (.cons _ (.cons_cons _ (.cons _ (.cons _ (.cons _ (.cons _ (.cons _ (List.sublist_append_right _ _))))))))
        · exact fun h => absurd h HE0.out
      subst hqe
      obtain ⟨o0, o1, o2, o3, o4, o5⟩ := HK1.out.c6 (.tail _ (.head _))
      go_wp2_with fail
      refine (l16Fits_any qx qy _ _ _ _ M qm qk qL _ (HY7.out.sl HOK.out HK1.out (fun s hs => .tail _ (.tail _ (.tail _ (.tail _ (.tail _ (.tail _ (.tail _ (List.mem_append_left _ hs))))))))) (HK1.out.slB 5 (.tail _ (.tail _ (.head _)))) (HK1.out.slB 5 (.tail _ (.tail _ (.tail _ (.head _))))) (HK1.out.slS 24 5 HVS.out (.tail _ (.tail _ (.tail _ (.tail _ (.head _)))))) HL3.out).mono ?_
      obtain ⟨fb, hfb⟩ : ∃ fb, fb = lastB M qx qy := ⟨_, rfl⟩
      rw [← hfb]
      have HFB := Lib.hid hfb
      clear hfb
      rintro ev w8 ⟨rfl, hb8⟩
      have HK8 := Lib.hid (HK1.out.up hb8)
      have HY8 := Lib.hid (HY7.out.keptF (S := fun _ => False) (Frm.of_below hb8) (fun b _ _ e => e))
      clear HK1 HY7 hb8 o0 o1 o2 o3 o4 o5 q2'
      go_wp2_with fail
      have hcall := l11Fail_F W _ g _ qp 0 6 (!fb) _ HK8.out
      rw [Bool.not_not] at hcall
      refine hcall.mono ?_
      clear hcall
      obtain ⟨ee, hee⟩ : ∃ ee, ee = fE 0 fb 6 := ⟨_, rfl⟩
      rw [← hee]
      have HRe : Hid (R.e = ee) := Lib.hid (by rw [HRq.out, hee, HFB.out])
      clear hee
      rintro ev w9 ⟨rfl, H9, F9⟩
      have HY9 := Lib.hid (HY8.out.keptF F9 (fun b hb _ e => by have := HW0.out.2; omega))
      have HK9 : Hid (InvF W w9 (segX 51 g [.slice A l.length m, .int .i64 qp, .int .i64 ee] :: segX 30 (w.heap.size + 2) [.slice At j ct, .int .i64 qx, .int .i64 qy, .slice B1 qm.length d1, .slice B2 qk.length d2, .slice B3 qL.length d3] :: segB 5 (.slice B1 qm.length d1) qm :: segB 5 (.slice B2 qk.length d2) qk :: segS 24 5 (.slice B3 qL.length d3) vs qL :: segX 30 (w.heap.size + 1) [.slice none 0 0, .int .i64 0, .int .i64 0, .slice none 0 0, .slice none 0 0, .slice none 0 0] :: segX 33 w.heap.size [.int .i64 a, .int .i64 b, .int .i64 c0, .int .i64 d, .int .i64 f] :: (partsF M ps ++ ss))) := Lib.hid H9
      clear H9 F9 HK8 HY8
      obtain ⟨o0, o1, o2, o3, o4, o5⟩ := HK9.out.c6 (.tail _ (.head _))
      obtain ⟨r0, r1, r2, r3, r4, r5⟩ := HK9.out.c6 (.tail _ (.tail _ (.tail _ (.tail _ (.tail _ (.head _))))))
      obtain ⟨s0, s1, s2, s3, s4, s5⟩ := HK9.out.f6 (.tail _ (.tail _ (.tail _ (.tail _ (.tail _ (.head _))))))
      have h6 := HK9.out.ltX (.tail _ (.head _))
      have h7 := HK9.out.ltX (.tail _ (.tail _ (.tail _ (.tail _ (.tail _ (.head _))))))
      go_wp2
      refine bodyPost_ret (v := .agg #[.slice At j ct, .int .i64 qx, .int .i64 qy, .slice B1 qm.length d1, .slice B2 qk.length d2, .slice B3 qL.length d3]) (by simp [results, Tryd.results20, go_sem, r0, r1, r2, r3, r4, r5]) rfl ⟨_, _, _, _, _, _, _, _, _, _, _, _, _, _, qp, rfl, ?_, ?_⟩
      · rw [HRe.out]
        exact ((HK9.out.front 5 rfl).over6 (.slice At j ct) (.int .i64 qx) (.int .i64 qy) (.slice B1 qm.length d1) (.slice B2 qk.length d2) (.slice B3 qL.length d3)).sub (.cons _ (.cons_cons _ (.cons _ (.cons _ (.cons _ (.cons _ (.cons _ (List.sublist_append_right _ _))))))))
      · have Kf := (HK9.out.front 5 rfl).over6 (.slice At j ct) (.int .i64 qx) (.int .i64 qy) (.slice B1 qm.length d1) (.slice B2 qk.length d2) (.slice B3 qL.length d3)
        have HYf := HY9.out.keptF (Frm.setsL (S := fun b => b = w.heap.size + 1) rfl [.slice At j ct, .int .i64 qx, .int .i64 qy, .slice B1 qm.length d1, .slice B2 qk.length d2, .slice B3 qL.length d3] 0 w9 _ (HK9.out.front 5 rfl) (Frm.refl _ _)) (fun b hb _ e => by have := HB3.out; omega)
        rw [HRq.out]
        rw [HRq.out] at HRe
        have hee := HRe.out
        dsimp only at hee ⊢
        rw [hee]
        exact fun _ => ⟨rfl, rfl, rfl, n0, ps, vs, by have := HB3.out; omega, HOK.out, HYf, HVS.out, Kf.sub (.cons _ (.cons_cons _ (.cons _ (.cons_cons _ (.cons_cons _ (.cons_cons _ (.cons _ (List.Sublist.refl _))))))))⟩
    have hc5 := HCN.out (HZJ.out (by first | trivial | rfl))
    have hcall := l13Get_F W wr.drew g _ l a b c0 d f pj 0 _ Hj.out.drew1 HV.out hl
    obtain ⟨h, hh⟩ : ∃ h, h = hdAt l a pj 0 := ⟨_, rfl⟩
    rw [← hh] at hcall HSTEP
    clear hh
    obtain ⟨hx, hy, hz, hm, hk, ⟨qx, qy, qm, qk, qL, qp, qe⟩, he⟩ := h
    dsimp only at hcall
    have HC := Lib.hid hcall
    clear hcall
    have hj5 : j < 5 := by omega
    have HNX : Hid (hdsAt l a p1 e2 (j + 1) = (M ++ [(⟨hx, hy, hz, hm, hk, qx, qy, qm, qk, qL⟩ : Ht)], qp, he)) := Lib.hid HSTEP.out
    obtain ⟨t0, t1, t2, t3, t4⟩ := Hj.out.c5 (.tail _ (.tail _ (.tail _ (.head _))))
    have o4 := Hj.out.atX (.tail _ (.head _)) 0 rfl
    clear HEJ HFJ HZJ HSTEP
    go_wp2_with fail
    go_region_law (first
      | (refine step_appHd (n0 := n0) (W := W) (w := w12) (v := .slice At j ct) (M := M) (ps := ps) (t0 := (⟨hx, hy, hz, hm, hk, qx, qy, qm, qk, qL⟩ : Ht)) (p := (⟨.slice A1 hm.length d1, .slice A2 hk.length d2, .slice A3 qm.length d3, .slice A4 qk.length d4, .slice A5 qL.length d5, vs⟩ : HP)) (by rfl) (.tmp 34) (.tmp 38) 25 rfl i0 _ Tryd.underlying25 hi hz0 (by rfl) hz1 hz2 [.int .i64 hx, .int .i64 hy, .int .i64 hz, .slice A1 hm.length d1, .slice A2 hk.length d2, .int .i64 qx, .int .i64 qy, .slice A3 qm.length d3, .slice A4 qk.length d4, .slice A5 qL.length d5] rfl (by simp [Value.oneCell']) (by rfl) (by rfl) HR12.out K12.out HS12.out HW0.out.1 HN12.out (by rw [HLEN.out]; omega) ?_; intro v14 w14 HR14 H14 hn14; obtain ⟨A14, c14, e14⟩ := HR14.form; simp only [List.length_append, List.length_singleton, HLEN.out] at e14; subst e14; have o6 := H14.atX (.tail _ (.head _)) 0 rfl; have f6 := H14.frX (.tail _ (.head _)) 0; have K14 := Lib.hid H14; have HRW := Lib.hid HR14; have HN14 := Lib.hid hn14; clear H14 HR14 hn14)
      | (go_simp; go_at_call 39; refine HC.out.mono ?_; rintro ev w12 ⟨u1, u2, u3, u4, u5, vs, rfl, hvs, H12, F12⟩; obtain ⟨A1, d1, rfl⟩ := H12.openB' (.tail _ (.head _)); obtain ⟨A2, d2, rfl⟩ := H12.openB' (.tail _ (.tail _ (.head _))); obtain ⟨A3, d3, rfl⟩ := H12.openB' (.tail _ (.tail _ (.tail _ (.head _)))); obtain ⟨A4, d4, rfl⟩ := H12.openB' (.tail _ (.tail _ (.tail _ (.tail _ (.head _))))); obtain ⟨A5, d5, rfl⟩ := H12.openS hvs (.tail _ (.tail _ (.tail _ (.tail _ (.tail _ (.head _)))))); have HVS := Lib.hid hvs; clear hvs; have o5 := H12.atX (.tail _ (.tail _ (.tail _ (.tail _ (.tail _ (.tail _ (.head _))))))) 0 rfl; have o5a := (H12.up ((Below.refl _ _).alloc (Nat.le_refl _) (.cells #[.int .i64 hx, .int .i64 hy, .int .i64 hz, .slice A1 hm.length d1, .slice A2 hk.length d2, .int .i64 qx, .int .i64 qy, .slice A3 qm.length d3, .slice A4 qk.length d4, .slice A5 qL.length d5] 78))).atX (.tail _ (.tail _ (.tail _ (.tail _ (.tail _ (.tail _ (.head _))))))) 0 rfl; have K12 : Hid (InvF W w12 (segX 51 g [.slice A l.length m, .int .i64 qp, .int .i64 he] :: segX 30 (w.heap.size + 2) [.slice At j ct, .int .i64 0, .int .i64 0, .slice none 0 0, .slice none 0 0, .slice none 0 0] :: segX 30 (w.heap.size + 1) [.slice none 0 0, .int .i64 0, .int .i64 0, .slice none 0 0, .slice none 0 0, .slice none 0 0] :: segX 33 w.heap.size [.int .i64 a, .int .i64 b, .int .i64 c0, .int .i64 d, .int .i64 f] :: ([segB 5 (.slice A1 hm.length d1) hm, segB 5 (.slice A2 hk.length d2) hk, segB 5 (.slice A3 qm.length d3) qm, segB 5 (.slice A4 qk.length d4) qk, segS 24 5 (.slice A5 qL.length d5) vs qL] ++ (partsF M ps ++ ss)))) := Lib.hid (H12.perm (List.Perm.cons _ ((List.perm_append_comm (l₁ := [_, _, _, _, _]) (l₂ := [_, _, _])).append_right _))); have HR12 := Lib.hid ((HY.out.keptF (S := fun _ => False) (Frm.drewN (Frm.refl _ _) 1) (fun b _ _ e => e)).keptF F12 (fun b hb _ e => by have := HW0.out.2; omega)); have HN12 : Hid (n0 ≤ w12.heap.size) := Lib.hid (Nat.le_trans HWR.out F12.size); have HS12 : Hid (Sep n0 (segX 51 g [.slice A l.length m, .int .i64 qp, .int .i64 he] :: segX 30 (w.heap.size + 2) [.slice At j ct, .int .i64 0, .int .i64 0, .slice none 0 0, .slice none 0 0, .slice none 0 0] :: segX 30 (w.heap.size + 1) [.slice none 0 0, .int .i64 0, .int .i64 0, .slice none 0 0, .slice none 0 0, .slice none 0 0] :: segX 33 w.heap.size [.int .i64 a, .int .i64 b, .int .i64 c0, .int .i64 d, .int .i64 f] :: ([segB 5 (.slice A1 hm.length d1) hm, segB 5 (.slice A2 hk.length d2) hk, segB 5 (.slice A3 qm.length d3) qm, segB 5 (.slice A4 qk.length d4) qk, segS 24 5 (.slice A5 qL.length d5) vs qL] ++ (partsF M ps ++ ss)))) := Lib.hid (Sep.box (by decide) (Sep.box (by decide) (Sep.box (by decide) (Sep.box (by decide) (Sep.app (Sep.rows (⟨hx, hy, hz, hm, hk, qx, qy, qm, qk, qL⟩ : Ht) (⟨.slice A1 hm.length d1, .slice A2 hk.length d2, .slice A3 qm.length d3, .slice A4 qk.length d4, .slice A5 qL.length d5, vs⟩ : HP)) (Sep.app (Sep.parts n0 M ps) HSEP.out)))))); clear H12 F12; dsimp only))
    all_goals
      have HF : Hid (InvF W (w14.setCell ⟨w.heap.size + 2, 0, none⟩ (.slice A14 (j + 1) c14)) (segX 51 g [.slice A l.length m, .int .i64 (hdsAt l a p1 e2 (j + 1)).2.1, .int .i64 (hdsAt l a p1 e2 (j + 1)).2.2] :: segX 30 (w.heap.size + 2) [.slice A14 (j + 1) c14, .int .i64 0, .int .i64 0, .slice none 0 0, .slice none 0 0, .slice none 0 0] :: segX 30 (w.heap.size + 1) [.slice none 0 0, .int .i64 0, .int .i64 0, .slice none 0 0, .slice none 0 0, .slice none 0 0] :: segX 33 w.heap.size [.int .i64 a, .int .i64 b, .int .i64 c0, .int .i64 d, .int .i64 f] :: (partsF (hdsAt l a p1 e2 (j + 1)).1 (ps ++ [(⟨.slice A1 hm.length d1, .slice A2 hk.length d2, .slice A3 qm.length d3, .slice A4 qk.length d4, .slice A5 qL.length d5, vs⟩ : HP)]) ++ ss))) := Lib.hid (by
        have h := ((K14.out.front 1 rfl).setX 0 (.slice A14 (j + 1) c14)).front 1 rfl
        rw [HNX.out]
        dsimp only
        rw [partsF_snoc HY.out.1]
        exact h)
      have FW : Frm (fun b => b = w.heap.size + 2) w14 (w14.setCell ⟨w.heap.size + 2, 0, none⟩ (.slice A14 (j + 1) c14)) := Frm.setF (Frm.refl _ _) (K14.out.front 1 rfl) (.slice A14 (j + 1) c14) rfl
      have HRS := Lib.hid (HRW.out.keptF FW (fun b hb _ e => by have := HB3.out; omega))
      have HNS := Lib.hid (Nat.le_trans HN14.out FW.size)
      clear o4 o5 o5a o6 f6 K12 K14 FW
      go_wp2
      go_roundw
      case rel => exact ⟨j + 1, A14, c14, ps ++ [(⟨.slice A1 hm.length d1, .slice A2 hk.length d2, .slice A3 qm.length d3, .slice A4 qk.length d4, .slice A5 qL.length d5, vs⟩ : HP)], by omega, by go_num, Lib.hid (by rw [HNX.out]; exact HOK.out.snoc HVS.out), Lib.hid (by rw [HNX.out]; exact HRS.out), HNS, HF⟩
      case measure => simp [intOf]; omega

/-- What GetProof of the model answers; what it has made is only read. -/
def GotPf (w : World) (r : PfAt) (e : Ending) (w' : World) : Prop :=
  ∃ hs qa qb qs, e = .returned (.tuple #[.agg #[hs, .int .i64 (gpX r), .int .i64 (gpY r), qa, qb, qs], .int .i64 (gpP r), .int .i64 r.e]) ∧ Below w.heap.size w w' ∧ SlH w' w'.heap.size hs (gpM r) ∧ Sl w' w'.heap.size qa (gpA r) ∧ Sl w' w'.heap.size qb (gpB r) ∧ SlS w' w'.heap.size qs (gpL r)
theorem gotp_yes {w : World} {r : PfAt} {e : Ending} {w' : World} (h : r.e = 0) (k : ∃ hs qa qb qs, e = .returned (.tuple #[.agg #[hs, .int .i64 r.q.x, .int .i64 r.q.y, qa, qb, qs], .int .i64 r.q.p, .int .i64 0]) ∧ Below w.heap.size w w' ∧ SlH w' w'.heap.size hs r.M ∧ Sl w' w'.heap.size qa r.q.m ∧ Sl w' w'.heap.size qb r.q.k ∧ SlS w' w'.heap.size qs r.q.L) : GotPf w r e w' := by
  obtain ⟨h1, h2, h3, h4, h5, h6, h7⟩ := gp_all h
  unfold GotPf
  rw [h1, h2, h3, h4, h5, h6, h7, h]
  exact k
theorem gotp_no {w : World} {r : PfAt} {e : Ending} {w' : World} (h : r.e ≠ 0) (k : e = .returned (.tuple #[.agg #[.slice none 0 0, .int .i64 0, .int .i64 0, .slice none 0 0, .slice none 0 0, .slice none 0 0], .int .i64 0, .int .i64 r.e])) (hb : Below w.heap.size w w') : GotPf w r e w' := by
  obtain ⟨h1, h2, h3, h4, h5, h6, h7⟩ := gp_none h
  unfold GotPf
  rw [h1, h2, h3, h4, h5, h6, h7]
  exact ⟨_, _, _, _, k, hb, SlH.nil_, Sl.nil_, Sl.nil_, SlS.nil_⟩

set_option maxRecDepth 100000 in
set_option maxHeartbeats 4000000 in
theorem specGetProof_any (a b c d e p : Int) (v : Value) (l : List UInt8) (w : World) (hv : Sp w w.heap.size v l) (hl : l.length ≤ 1073741824) :
    Calls Tryd.prog 5 #[.agg #[.int .i64 a, .int .i64 b, .int .i64 c, .int .i64 d, .int .i64 e], v, .int .i64 p] w (GotPf w (pfAt l a e p (limE a b c d e))) := by
  have HV := Lib.hid hv
  obtain ⟨A, n, rfl, k1⟩ := hv.sl
  clear k1
  obtain ⟨e0, he0⟩ : ∃ e0, e0 = limE a b c d e := ⟨_, rfl⟩
  have c0 := fun W h => l11New_any a b c d e p (.slice A l.length n) W l h
  have hN : e0 = 0 → e ≤ 5 := fun h => by
    rw [he0] at h
    unfold limE at h
    split at h
    · rename_i hb
      exact (limB_yes hb).2.2.2.2.2
    · cases h
  rw [← he0] at c0 ⊢
  have C0 := Lib.hid c0
  have HN5 := Lib.hid hN
  clear c0 he0 hv hN
  obtain ⟨r, hr⟩ : ∃ r, r = pfAt l a e p e0 := ⟨_, rfl⟩
  rw [← hr]
  have HR := Lib.hid hr
  clear hr
  have H0 := ((InvF.start w).newG 33 #[.int .i64 a, .int .i64 b, .int .i64 c, .int .i64 d, .int .i64 e] w.heap.size).newG 30 #[.slice none 0 0, .int .i64 0, .int .i64 0, .slice none 0 0, .slice none 0 0, .slice none 0 0] (w.heap.size + 1)
  go_enter Tryd.func5, Tryd.ntmps5
  go_wp2_with fail
  refine (C0.out _ (HV.out.up H0.bel).sl).mono ?_
  rintro ev w1 ⟨g, rfl, K⟩
  have H1 : InvF w w1 (segX 51 g [.slice A l.length n, .int .i64 p, .int .i64 e0] :: [segX 30 (w.heap.size + 1) [.slice none 0 0, .int .i64 0, .int .i64 0, .slice none 0 0, .slice none 0 0, .slice none 0 0], segX 33 w.heap.size [.int .i64 a, .int .i64 b, .int .i64 c, .int .i64 d, .int .i64 e]]) := H0.moreF K
  clear H0 K C0
  obtain ⟨t0, t1, t2, t3, t4⟩ := H1.c5 (.tail _ (.tail _ (.head _)))
  go_wp2_with fail
  refine (l16Get_any w _ g _ l a b c d e p e0 _ H1 HV.out hl HN5.out).mono ?_
  rw [← HR.out]
  have hrb0 := H1.ltX (.tail _ (.head _))
  clear H1 t0 t1 t2 t3 t4
  rintro ev w3 ⟨Ah, nh, ch, qx, qy, Aa, na, ca, Ab, nb, cb, As, ns, cs, p7, rfl, K3, hlp⟩
  have HLP := Lib.hid hlp
  clear hlp
  have hrb : Hid (w.heap.size + 1 < w1.heap.size) := Lib.hid (hrb0)
  by_cases he : r.e = 0
  · obtain ⟨rfl, rfl, rfl, n0, ps, vs, hn0, hok, hrow, hvs, K3'⟩ := HLP.out he
    have HY := Lib.hid (fun ev w' => gotp_yes (w := w) (r := r) (e := ev) (w' := w') he)
    rw [he] at K3'
    have HOK := Lib.hid hok
    have HVS := Lib.hid hvs
    clear HLP K3 he hok hvs
    have K4 := K3'.newX 30 #[.slice Ah nh ch, .int .i64 r.q.x, .int .i64 r.q.y, .slice Aa na ca, .slice Ab nb cb, .slice As ns cs]
    replace K4 : InvF w _ (segX 30 w3.heap.size [.slice Ah nh ch, .int .i64 r.q.x, .int .i64 r.q.y, .slice Aa na ca, .slice Ab nb cb, .slice As ns cs] :: segX 51 g [.slice A l.length n, .int .i64 r.q.p, .int .i64 0] :: segB 5 (.slice Aa na ca) r.q.m :: segB 5 (.slice Ab nb cb) r.q.k :: segS 24 5 (.slice As ns cs) vs r.q.L :: (partsF r.M ps ++ [segX 30 (w.heap.size + 1) [.slice none 0 0, .int .i64 0, .int .i64 0, .slice none 0 0, .slice none 0 0, .slice none 0 0], segX 33 w.heap.size [.int .i64 a, .int .i64 b, .int .i64 c, .int .i64 d, .int .i64 e]])) := K4
    have K5 : InvF w _ (segX 30 (w.heap.size + 1) [.slice none 0 0, .int .i64 0, .int .i64 0, .slice none 0 0, .slice none 0 0, .slice none 0 0] :: segX 30 w3.heap.size [.slice Ah nh ch, .int .i64 r.q.x, .int .i64 r.q.y, .slice Aa na ca, .slice Ab nb cb, .slice As ns cs] :: segX 51 g [.slice A l.length n, .int .i64 r.q.p, .int .i64 0] :: segB 5 (.slice Aa na ca) r.q.m :: segB 5 (.slice Ab nb cb) r.q.k :: segS 24 5 (.slice As ns cs) vs r.q.L :: (partsF r.M ps ++ [segX 33 w.heap.size [.int .i64 a, .int .i64 b, .int .i64 c, .int .i64 d, .int .i64 e]])) := K4.perm (List.perm_middle (l₁ := segX 30 w3.heap.size [.slice Ah nh ch, .int .i64 r.q.x, .int .i64 r.q.y, .slice Aa na ca, .slice Ab nb cb, .slice As ns cs] :: segX 51 g [.slice A l.length n, .int .i64 r.q.p, .int .i64 0] :: segB 5 (.slice Aa na ca) r.q.m :: segB 5 (.slice Ab nb cb) r.q.k :: segS 24 5 (.slice As ns cs) vs r.q.L :: partsF r.M ps) (l₂ := [segX 33 w.heap.size [.int .i64 a, .int .i64 b, .int .i64 c, .int .i64 d, .int .i64 e]]))
    have hrow4 : HdRow n0 (w3.alloc (.cells #[.slice Ah nh ch, .int .i64 r.q.x, .int .i64 r.q.y, .slice Aa na ca, .slice Ab nb cb, .slice As ns cs] 30)) (.slice Ah nh ch) r.M ps := hrow.keptF (S := fun _ => False) (Frm.of_below ((Below.refl _ _).alloc (Nat.le_refl _) _)) (fun b _ _ e => e)
    have q2 := K5.atX (.tail _ (.tail _ (.head _))) 2 rfl
    have q1 := K5.atX (.tail _ (.tail _ (.head _))) 1 rfl
    clear K3' K4 hrow
    generalize r.q.x = qx at *
    generalize r.q.y = qy at *
    generalize r.q.p = qp at *
    go_wp2_with fail
    clear q2 q1
    generalize w3.alloc (.cells #[.slice Ah nh ch, .int .i64 qx, .int .i64 qy, .slice Aa na ca, .slice Ab nb cb, .slice As ns cs] 30) = w4 at *
    have K14 := Lib.hid ((K5.over6 (.slice Ah nh ch) (.int .i64 qx) (.int .i64 qy) (.slice Aa na ca) (.slice Ab nb cb) (.slice As ns cs)).drew1)
    have L13 := Lib.hid (And.intro (K5.drew1.atX (.tail _ (.tail _ (.head _))) 1 rfl) (K5.drew1.c6 (.tail _ (.head _))))
    have L14 := Lib.hid (And.intro (K14.out.atX (.tail _ (.tail _ (.head _))) 1 rfl) (K14.out.c6 (.tail _ (.head _))))
    have FX : Frm (fun b => b = w.heap.size + 1) w4 (w4.setCells (w.heap.size + 1) 0 [.slice Ah nh ch, .int .i64 qx, .int .i64 qy, .slice Aa na ca, .slice Ab nb cb, .slice As ns cs]) := Frm.setsL (S := fun b => b = w.heap.size + 1) rfl [.slice Ah nh ch, .int .i64 qx, .int .i64 qy, .slice Aa na ca, .slice Ab nb cb, .slice As ns cs] 0 w4 _ K5 (Frm.refl _ _)
    have HROW := Lib.hid ((hrow4.keptF FX (fun b hb _ e => by have := hrb.out; omega)).keptF (S := fun _ => False) ((Frm.refl _ _).drewN 1) (fun b _ _ e => e))
    obtain ⟨r0, r1, r2, r3, r4, r5⟩ := K5.c6 (.head _)
    obtain ⟨f0, f1, f2, f3, f4, f5⟩ := K5.f6 (.head _)
    obtain ⟨k0, k1, k2, k3, k4, k5⟩ := K14.out.c6 (.head _)
    clear K5 HV HR hrow4 FX
    go_region_held3 (fun w' => w'.cell? ⟨g, 1, none⟩ = some (.int .i64 qp) ∧ w'.cell? ⟨w3.heap.size, 0, none⟩ = some (.slice Ah nh ch) ∧ w'.cell? ⟨w3.heap.size, 1, none⟩ = some (.int .i64 qx) ∧ w'.cell? ⟨w3.heap.size, 2, none⟩ = some (.int .i64 qy) ∧ w'.cell? ⟨w3.heap.size, 3, none⟩ = some (.slice Aa na ca) ∧ w'.cell? ⟨w3.heap.size, 4, none⟩ = some (.slice Ab nb cb) ∧ w'.cell? ⟨w3.heap.size, 5, none⟩ = some (.slice As ns cs))
      (first
        | with_reducible exact L13.out
        | with_reducible exact L14.out)
      (fail)
    go_wp2_with fail
    refine bodyPost_ret (v := .tuple #[.agg #[.slice Ah nh ch, .int .i64 qx, .int .i64 qy, .slice Aa na ca, .slice Ab nb cb, .slice As ns cs], .int .i64 qp, .int .i64 0]) (by simp [results, Tryd.results5, go_sem, k0, k1, k2, k3, k4, k5]) rfl (HY.out _ _ ⟨_, _, _, _, rfl, K14.out.bel, ?_, ?_, ?_, ?_⟩)
    · exact HROW.out.sl HOK.out K14.out (fun s hs => .tail _ (.tail _ (.tail _ (.tail _ (.tail _ (.tail _ (List.mem_append_left _ hs)))))))
    · exact K14.out.slB 5 (.tail _ (.tail _ (.tail _ (.head _))))
    · exact K14.out.slB 5 (.tail _ (.tail _ (.tail _ (.tail _ (.head _)))))
    · exact K14.out.slS 24 5 HVS.out (.tail _ (.tail _ (.tail _ (.tail _ (.tail _ (.head _))))))
  · have HN := Lib.hid (fun ev w' => gotp_no (w := w) (r := r) (e := ev) (w' := w') he)
    have hne : (r.e != 0) = true := by simpa using he
    clear he HLP
    have K4 := K3.newX 30 #[.slice Ah nh ch, .int .i64 qx, .int .i64 qy, .slice Aa na ca, .slice Ab nb cb, .slice As ns cs]
    have q2 := K4.atX (.tail _ (.head _)) 2 rfl
    clear K3
    generalize r.e = er at *
    go_wp2_with fail
    clear q2
    generalize w3.alloc (.cells #[.slice Ah nh ch, .int .i64 qx, .int .i64 qy, .slice Aa na ca, .slice Ab nb cb, .slice As ns cs] 30) = w4 at *
    have K14 := Lib.hid (((K4.front 2 rfl).over6 (.slice none 0 0) (.int .i64 0) (.int .i64 0) (.slice none 0 0) (.slice none 0 0) (.slice none 0 0)).drew1)
    have L13 := Lib.hid (K4.drew1.atX (.tail _ (.head _)) 2 rfl)
    have L14 := Lib.hid (K14.out.atX (.tail _ (.tail _ (.head _))) 2 rfl)
    obtain ⟨r0, r1, r2, r3, r4, r5⟩ := K4.c6 (.tail _ (.tail _ (.head _)))
    obtain ⟨f0, f1, f2, f3, f4, f5⟩ := K4.f6 (.tail _ (.tail _ (.head _)))
    obtain ⟨k0, k1, k2, k3, k4, k5⟩ := K14.out.c6 (.head _)
    clear K4 HV HR
    go_region_held3 (fun w' => w'.cell? ⟨g, 2, none⟩ = some (.int .i64 er))
      (first
        | with_reducible exact L13.out
        | with_reducible exact L14.out)
      (fail)
    go_wp2_with fail
    refine bodyPost_ret (v := .tuple #[.agg #[.slice none 0 0, .int .i64 0, .int .i64 0, .slice none 0 0, .slice none 0 0, .slice none 0 0], .int .i64 0, .int .i64 er]) (by simp [results, Tryd.results5, go_sem, k0, k1, k2, k3, k4, k5]) rfl (HN.out _ _ rfl K14.out.bel)

end Go.Proofs.YtopbalemfljphaaDoor
