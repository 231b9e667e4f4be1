/- slices.EqualFunc over votes, with the program's VoteSame. -/
import Derived.Test.YtdoaikanaodefaaFromM
namespace Go.Proofs.Ytdoaikanaodefaa
open Go.ChangeShapes Go.WideShapes Go.ChangeAt Go.RowKit

set_option maxRecDepth 100000 in
set_option maxHeartbeats 4000000 in
theorem equalFuncV_any (v u : Value) (V W : List Vt) (w : World) (h : SlV w w.heap.size v V) (h' : SlV w w.heap.size u W) :
    Calls Try.prog 30 #[v, u, .func (Fn.func 32) #[] #[]] w (BoolB w (eqVs V W)) := by
  obtain ⟨A, c, rfl, h1, h2, h0, h3⟩ := h
  obtain ⟨A', c', rfl, h1', h2', h0', h3'⟩ := h'
  unfold maxLen at h2 h2'
  clear h0 h0'
  obtain ⟨R, hR⟩ : ∃ R, R = eqVs V W := ⟨_, rfl⟩
  rw [← hR]
  have HR := Lib.hid hR
  clear hR
  by_cases hlen : V.length = W.length
  · have HLEN := Lib.hid hlen
    rw [← hlen] at h1' h3' ⊢
    have hne : ((V.length : Int) != (V.length : Int)) = false := by simp
    clear hlen
    go_enter Try.func30, Try.ntmps30
    go_wp2
    go_loopw [7, 17] (fun _ i wr => ∃ j : Nat, j ≤ V.length ∧ i = .int .i64 (j : Int) ∧ Hid (∀ (i : Nat) (p q : Vt), i < j → V[i]? = some p → W[i]? = some q → sameT p q = true) ∧ Hid (Below w.heap.size w wr))
      (fun _ i _ => V.length - (intOf i).toNat)
    case atStart => exact ⟨0, Nat.zero_le _, rfl, Lib.hid (fun i p q hi => absurd hi (Nat.not_lt_zero _)), Lib.hid (Below.refl _ _)⟩
    case round =>
      obtain ⟨j, hj, rfl, hsame, HBj⟩ := hrel
      by_cases hlt : j < V.length
      · obtain ⟨b, off, rfl, hbb, hcell⟩ := h3 (by omega)
        obtain ⟨b', off', rfl, hbb', hcell'⟩ := h3' (by omega)
        obtain ⟨t, ht⟩ := get_default hlt
        have hlw : j < W.length := by have := HLEN.out; omega
        obtain ⟨q, hq⟩ := get_default hlw
        have hjl : (j : Int) < (V.length : Int) := by omega
        obtain ⟨y1, y2, g0, g1, g2, g3, g4, s1, s2⟩ := (hcell j t ht).below HBj.out hbb
        obtain ⟨y3, y4, k0, k1, k2, k3, k4, s3, s4⟩ := hcell' j q hq
        obtain ⟨Ay, cy, rfl, _⟩ := id s1
        obtain ⟨Az, cz, rfl, _⟩ := id s2
        obtain ⟨Bu, bu, rfl, _⟩ := id s3
        obtain ⟨Bw, bw, rfl, _⟩ := id s4
        have H1 := (InvF.start wr).newG 59 #[.int .i64 t.x, .int .i64 t.y, .slice Ay t.l.length cy, .int .i64 t.z, .slice Az t.k.length cz] wr.heap.size
        have hb1 : Below w.heap.size w (wr.alloc (.cells #[.int .i64 t.x, .int .i64 t.y, .slice Ay t.l.length cy, .int .i64 t.z, .slice Az t.k.length cz] 59)) := HBj.out.trans (H1.bel.mono HBj.out.size)
        replace k0 := (hb1.cell (p := ⟨b', off' + j * 5, none⟩) hbb').trans k0
        replace k1 := (hb1.cell (p := ⟨b', off' + j * 5 + 1, none⟩) hbb').trans k1
        replace k2 := (hb1.cell (p := ⟨b', off' + j * 5 + 2, none⟩) hbb').trans k2
        replace k3 := (hb1.cell (p := ⟨b', off' + j * 5 + 3, none⟩) hbb').trans k3
        replace k4 := (hb1.cell (p := ⟨b', off' + j * 5 + 4, none⟩) hbb').trans k4
        have H2 := H1.newG 59 #[.int .i64 q.x, .int .i64 q.y, .slice Bu q.l.length bu, .int .i64 q.z, .slice Bw q.k.length bw] (wr.heap.size + 1)
        obtain ⟨m0, m1, m2, m3, m4⟩ := H2.c5 (.tail _ (.head _))
        obtain ⟨n0, n1, n2, n3, n4⟩ := H2.c5 (.head _)
        have HB2 : Hid (Below w.heap.size w ((wr.alloc (.cells #[.int .i64 t.x, .int .i64 t.y, .slice Ay t.l.length cy, .int .i64 t.z, .slice Az t.k.length cz] 59)).alloc (.cells #[.int .i64 q.x, .int .i64 q.y, .slice Bu q.l.length bu, .int .i64 q.z, .slice Bw q.k.length bw] 59))) := Lib.hid (HBj.out.trans (H2.bel.mono HBj.out.size))
        have Q1 := Lib.hid (s1.mono HBj.out.size |>.up H2.bel)
        have Q2 := Lib.hid (s2.mono HBj.out.size |>.up H2.bel)
        have Q3 := Lib.hid (s3.up HB2.out)
        have Q4 := Lib.hid (s4.up HB2.out)
        obtain ⟨sb, hsb⟩ : ∃ sb, sb = sameVB t.x t.y t.z t.l t.k q.x q.y q.z q.l q.k := ⟨_, rfl⟩
        have HSB := Lib.hid hsb
        have HTJ := Lib.hid ht
        have HUJ := Lib.hid hq
        clear hcell hcell' s1 s2 s3 s4 hsb ht hq H1 H2 hb1
        go_wp2_with fail
        refine (implVoteSame_any t.x t.y t.z q.x q.y q.z _ _ _ _ t.l t.k q.l q.k _ Q1.out Q2.out Q3.out Q4.out).mono ?_
        rw [← HSB.out]
        rintro ev w11 ⟨rfl, hb11⟩
        have HB3 := Lib.hid (HB2.out.trans (hb11.mono HB2.out.size))
        clear hb11 g0 g1 g2 g3 g4 k0 k1 k2 k3 k4 m0 m1 m2 m3 m4 n0 n1 n2 n3 n4 HB2
        rcases sb with _ | _
        · obtain rfl : R = false := by rw [HR.out]; exact eqVs_no HTJ.out HUJ.out (by unfold sameT; exact HSB.out.symm)
          go_wp2
          go_ret
          exact ⟨rfl, HB3.out⟩
        · have HS12 : Hid (∀ (i : Nat) (p q : Vt), i < j + 1 → V[i]? = some p → W[i]? = some q → sameT p q = true) := Lib.hid (fun i p q hi hp hq => by
            by_cases hij : i < j
            · exact hsame.out i p q hij hp hq
            · obtain rfl : i = j := by omega
              rw [HTJ.out] at hp
              rw [HUJ.out] at hq
              cases hp
              cases hq
              unfold sameT
              exact HSB.out.symm)
          go_wp2
          go_roundw
          case rel => exact ⟨j + 1, by omega, by go_num, HS12, HB3⟩
          case measure => simp [intOf]; omega
      · obtain rfl : j = V.length := by omega
        obtain rfl : R = true := by rw [HR.out]; exact eqVs_yes HLEN.out (fun i p q hp hq => hsame.out i p q (List.getElem?_eq_some_iff.1 hp).1 hp hq)
        go_wp2
        go_ret
        exact ⟨rfl, HBj.out⟩
  · obtain rfl : R = false := by rw [HR.out]; exact eqVs_len hlen
    have hne : ((V.length : Int) != (W.length : Int)) = true := by simp; omega
    clear h3 h3'
    go_enter Try.func30, Try.ntmps30
    go_wp2
    go_ret
    exact ⟨rfl, Below.refl _ _⟩
end Go.Proofs.Ytdoaikanaodefaa
