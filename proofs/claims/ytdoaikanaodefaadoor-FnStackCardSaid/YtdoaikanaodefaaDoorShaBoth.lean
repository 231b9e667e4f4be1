/- ShaBoth: ShaBlock, SpecSha, ShaBoth. -/
import Derived.Test.YtdoaikanaodefaaDoorPutBig
import Derived.Test.YtdoaikanaodefaaDoorList
import Derived.Deep.RegionLaw
import Derived.Deep.RegionHeld3
import Derived.RegionTactic
import Derived.BigRegion
import Derived.BigQuiet
import Derived.StillTailTactics
import Derived.Test.YtdoaikanaodefaaDoorImplSha

/- The contract of ShaBlock, as its model has it. -/
namespace Go.Proofs.YtdoaikanaodefaaDoor
open Go.ChangeShapes Go.WideShapes Go.ChangeAt Go.RowKit

/-- 'append(out, z)' inside a region that draws: out is nil or the call's own. -/
theorem wp_appI1 {P : Program} {W w : World} {o : Oper} {a : Act} {K : Act → World → Prop} {Q : Exit → Act → World → Prop} (s x : Operand) (t : TypeId)
    (ho : o.op = .call { callee := .builtin .append, args := #[s, x], argTypes := #[t, t] }) (E : TypeId) (i : TypeInfo) (ht : P.underlying t = some (.slice E)) (hi : P.info? E = some i)
    (hz : i.zero = some (.int .i64 0)) (hsize : i.size = 1) (hby : i.bytes = 8) (v : Value) (l : List Int) (hs : a.eval s = v) (z : Int)
    (hx : a.eval x = .slice (some ⟨w.heap.size, 0, none⟩) 1 1) (hown : OwnI E w W.heap.size v l) (hb : Below W.heap.size W w) (hlen : l.length ≤ 4398046511104)
    (h : ∀ v' w', OwnI E w' W.heap.size v' (l ++ [z]) → Below W.heap.size W w' → K (a.put o.dst v') w') : o.wp P a (w.alloc (.cells #[.int .i64 z] E)) K Q := by
  have hba : Below w.heap.size w (w.alloc (.cells #[.int .i64 z] E)) := (Below.refl _ _).alloc (Nat.le_refl _) _
  have hown' := hown.up hba
  refine wp_append_own _ s x t ho W.heap.size E i (.int .i64 0) 1 8 ht hi hz hsize hby rfl (by omega) v l.length (is l) hs hown' ⟨w.heap.size, 0, none⟩ 1 1 (is [z]) hx rfl ?_ (is_cell _) ?_ ?_ ?_ ?_
  · intro j u hj
    rcases j with _ | j
    · rw [is_one] at hj
      injection hj with hj
      subst hj
      simp [Addr.add]
    · simp [is_one] at hj
  · unfold maxLen; omega
  · omega
  · simp; have := hb.size; omega
  · intro v' w' h1 h2 _
    refine h v' w' ?_ ?_
    · unfold OwnI
      rw [is_app, List.length_append]
      exact h1
    · exact below_of_ownI hown' (hb.alloc hb.size _) h2
theorem step_appI1 {P : Program} {W w : World} {ops : Array Oper} {o : Oper} {a : Act} {K : Act → World → Prop} {Q : Exit → Act → World → Prop} {F : Prop} (hgd : o.guard = none) (s x : Operand) (t : TypeId)
    (ho : o.op = .call { callee := .builtin .append, args := #[s, x], argTypes := #[t, t] }) (E : TypeId) (i : TypeInfo) (ht : P.underlying t = some (.slice E)) (hi : P.info? E = some i)
    (hz : i.zero = some (.int .i64 0)) (hsize : i.size = 1) (hby : i.bytes = 8) (v : Value) (l : List Int) (hs : a.eval s = v) (z : Int)
    (hx : a.eval x = .slice (some ⟨w.heap.size, 0, none⟩) 1 1) (hown : OwnI E w W.heap.size v l) (hb : Below W.heap.size W w) (hlen : l.length ≤ 4398046511104)
    (h : ∀ v' w', OwnI E w' W.heap.size v' (l ++ [z]) → Below W.heap.size W w' → K (a.put o.dst v') w') :
    if Region.wanted o (yielded ops a.tmps) = true then Oper.wp P o a (w.alloc (.cells #[.int .i64 z] E)) K Q else F := by
  have hw : Region.wanted o (yielded ops a.tmps) = true := by simp [Region.wanted, hgd]
  rw [if_pos hw]
  exact wp_appI1 s x t ho E i ht hi hz hsize hby v l hs z hx hown hb hlen h

/-- 'append(out, x...)' for a slice x of ints: out is nil or the call's own. -/
theorem wpList_appIS {P : Program} {W w : World} {ops : Array Oper} {rest : List Oper} {o : Oper} {a : Act} {Q : Exit → Act → World → Prop} (hgd : o.guard = none) (s x : Operand) (t : TypeId)
    (ho : o.op = .call { callee := .builtin .append, args := #[s, x], argTypes := #[t, t] }) (E : TypeId) (i : TypeInfo) (ht : P.underlying t = some (.slice E)) (hi : P.info? E = some i)
    (hz : i.zero = some (.int .i64 0)) (hsize : i.size = 1) (hby : i.bytes = 8) (v : Value) (l : List Int) (hs : a.eval s = v) (u : Value) (m : List Int)
    (hx : a.eval x = u) (hm : SlI w w.heap.size u m) (hown : OwnI E w W.heap.size v l) (hb : Below W.heap.size W w) (hlen : l.length + m.length ≤ 4398046511104)
    (h : ∀ v' w', OwnI E w' W.heap.size v' (l ++ m) → Below W.heap.size W w' → wpList P ops Q rest (a.put o.dst v') w') : wpList P ops Q (o :: rest) a w := by
  obtain ⟨A, c, rfl, h1, h2, h0, h3⟩ := hm
  have fin : ∀ v' w', w'.ownsRow W.heap.size E 1 v' (l.length + m.length) (is l ++ is m) → w.grownBy w' v.ownBlock → wpList P ops Q rest (a.put o.dst v') w' := fun v' w' k1 k2 => by
    refine h v' w' ?_ (below_of_ownI hown hb k2)
    unfold OwnI
    rw [is_app, List.length_append]
    exact k1
  rcases A with _ | ad
  · have hm0 : m = [] := by
      rcases m with _ | ⟨y, m⟩
      · rfl
      · obtain ⟨b, off, e, _⟩ := h3 (by simp)
        cases e
    subst hm0
    obtain rfl := h0 rfl
    exact wpList_append_own_none hgd s x t ho W.heap.size E i 1 ht hi v l.length (is l) hs hown hx (by simpa using h v w (by simpa using hown) hb)
  · refine wpList_append_own _ hgd s x t ho W.heap.size E i (.int .i64 0) 1 8 ht hi hz hsize hby rfl (by omega) v l.length (is l) hs hown ad m.length c (is m) hx (by rw [is_length]; omega) ?_ (is_cell _) ?_ ?_ hb.size (fun v' w' k1 k2 _ => fin v' w' k1 k2)
    · intro j y hj
      have hjm : j < m.length := by
        rw [← is_length m]
        exact (List.getElem?_eq_some_iff.1 hj).1
      obtain ⟨b, off, e, _, hc⟩ := h3 (by omega)
      injection e with e
      subst e
      rw [is_get m j hjm] at hj
      injection hj with hj
      subst hj
      have := hc j hjm
      unfold Addr.add
      split
      · rename_i h0; subst h0; simpa using this
      · exact this
    · unfold maxLen; omega
    · omega
theorem ownI_form {E : TypeId} {w : World} {B : Nat} {v : Value} {l : List Int} (h : OwnI E w B v l) (hp : 0 < l.length) :
    ∃ g cap, v = .slice (some ⟨g, 0, none⟩) l.length cap ∧ l.length ≤ cap ∧ cap ≤ maxLen ∧ B ≤ g ∧ g < w.heap.size := by
  rcases h.2 with ⟨_, h0⟩ | ⟨g, cap, cur, rfl, hb, hg, hn, hm, hs, ht⟩
  · omega
  · exact ⟨g, cap, rfl, hn, hm, hb, (Array.getElem?_eq_some_iff.1 hg).1⟩
theorem nine_not {h : List Int} {b : List UInt8} (hh : ¬ hOk h) : shaBlockL h b = [] := if_neg fun e => hh e.1

theorem wrap_plus (m d : Nat) (h : m + d < 9223372036854775808) : IntKind.i64.wrap ((m : Int) + (d : Int)) = ((m + d : Nat) : Int) := by
  rw [wrapI, wrap64_small _ (by omega) (by omega)]
  omega
theorem or_at (a b i : Nat) (hb : b < 2 ^ i) : 2 ^ i * a ||| b = 2 ^ i * a + b := (Nat.two_pow_add_eq_or_of_lt hb a).symm
theorem word_bits {x0 x1 x2 x3 : Nat} (l0 : x0 < 256) (l1 : x1 < 256) (l2 : x2 < 256) (l3 : x3 < 256) :
    bits .or .i64 (bits .or .i64 (bits .or .i64 (IntKind.i64.wrap (IntKind.i64.wrap (x0 : Int) * 16777216)) (IntKind.i64.wrap (IntKind.i64.wrap (x1 : Int) * 65536))) (IntKind.i64.wrap (IntKind.i64.wrap (x2 : Int) * 256))) (IntKind.i64.wrap (x3 : Int)) =
      ((x0 * 16777216 + x1 * 65536 + x2 * 256 + x3 : Nat) : Int) := by
  simp only [wrapI]
  rw [wrap64_small (x0 : Int) (by omega) (by omega), wrap64_small (x1 : Int) (by omega) (by omega), wrap64_small (x2 : Int) (by omega) (by omega), wrap64_small (x3 : Int) (by omega) (by omega),
    wrap64_small ((x0 : Int) * 16777216) (by omega) (by omega), wrap64_small ((x1 : Int) * 65536) (by omega) (by omega), wrap64_small ((x2 : Int) * 256) (by omega) (by omega)]
  have e1 : 2 ^ 24 * x0 ||| x1 * 65536 = x0 * 16777216 + x1 * 65536 := by rw [or_at _ _ _ (by omega)]; omega
  have e2 : 2 ^ 16 * (x0 * 256 + x1) ||| x2 * 256 = x0 * 16777216 + x1 * 65536 + x2 * 256 := by rw [or_at _ _ _ (by omega)]; omega
  have e3 : 2 ^ 8 * (x0 * 65536 + x1 * 256 + x2) ||| x3 = x0 * 16777216 + x1 * 65536 + x2 * 256 + x3 := by rw [or_at _ _ _ (by omega)]; omega
  have f1 := i64_or (x0 * 16777216) (x1 * 65536) (by omega) (by omega)
  rw [show x0 * 16777216 = 2 ^ 24 * x0 from by omega, e1] at f1
  have f2 := i64_or (x0 * 16777216 + x1 * 65536) (x2 * 256) (by omega) (by omega)
  rw [show x0 * 16777216 + x1 * 65536 = 2 ^ 16 * (x0 * 256 + x1) from by omega, e2] at f2
  have f3 := i64_or (x0 * 16777216 + x1 * 65536 + x2 * 256) x3 (by omega) (by omega)
  rw [show x0 * 16777216 + x1 * 65536 + x2 * 256 = 2 ^ 8 * (x0 * 65536 + x1 * 256 + x2) from by omega, e3] at f3
  rw [← f3]
  have g1 : bits .or .i64 ((x0 : Int) * 16777216) ((x1 : Int) * 65536) = ((x0 * 16777216 + x1 * 65536 : Nat) : Int) := by
    rw [← f1]
    congr 1 <;> omega
  rw [g1]
  have g2 : bits .or .i64 ((x0 * 16777216 + x1 * 65536 : Nat) : Int) ((x2 : Int) * 256) = ((x0 * 16777216 + x1 * 65536 + x2 * 256 : Nat) : Int) := by
    rw [← f2]
    congr 1 <;> omega
  rw [g2]
  congr 1
  omega
/-- The names of a round's words in the schedule. -/
theorem sg0_facts (x : Nat) (hx : x < 4294967296) : ∃ p q r s : Nat, Hid (turnR x 7 = p ∧ turnR x 18 = q ∧ sg0 x = s) ∧ bits .xor .i64 (p : Int) (q : Int) = (r : Int) ∧ bits .xor .i64 (r : Int) ((x : Int) / 8) = (s : Int) ∧ s < 4294967296 := by
  have h1 := turnR_lt x 7
  have h2 := turnR_lt x 18
  refine ⟨_, _, turnR x 7 ^^^ turnR x 18, _, Lib.hid ⟨rfl, rfl, rfl⟩, i64_xor _ _ (by omega) (by omega), ?_, sg0_lt hx⟩
  have := i64_xor (turnR x 7 ^^^ turnR x 18) (x / 8) (by have := xor_lt h1 h2; omega) (by omega)
  simpa [sg0] using this
theorem sg1_facts (x : Nat) (hx : x < 4294967296) : ∃ p q r s : Nat, Hid (turnR x 17 = p ∧ turnR x 19 = q ∧ sg1 x = s) ∧ bits .xor .i64 (p : Int) (q : Int) = (r : Int) ∧ bits .xor .i64 (r : Int) ((x : Int) / 1024) = (s : Int) ∧ s < 4294967296 := by
  have h1 := turnR_lt x 17
  have h2 := turnR_lt x 19
  refine ⟨_, _, turnR x 17 ^^^ turnR x 19, _, Lib.hid ⟨rfl, rfl, rfl⟩, i64_xor _ _ (by omega) (by omega), ?_, sg1_lt hx⟩
  have := i64_xor (turnR x 17 ^^^ turnR x 19) (x / 1024) (by have := xor_lt h1 h2; omega) (by omega)
  simpa [sg1] using this
theorem next_bits {z s t r : Nat} (hz : z < 4294967296) (hs : s < 4294967296) (ht : t < 4294967296) (hr : r < 4294967296) :
    bits .and .i64 (IntKind.i64.wrap (IntKind.i64.wrap (IntKind.i64.wrap ((z : Int) + (s : Int)) + (t : Int)) + (r : Int))) 4294967295 = (((z + s + t + r) % 4294967296 : Nat) : Int) := by
  rw [← i64_low]
  congr 1
  simp only [wrapI]
  rw [wrap64_small ((z : Int) + s) (by omega) (by omega), wrap64_small ((z : Int) + s + t) (by omega) (by omega), wrap64_small ((z : Int) + s + t + r) (by omega) (by omega)]
  omega
/-- The names of a round's words. -/
theorem t_facts {e f g : Nat} (he : e < 4294967296) (_hf : f < 4294967296) (_hg : g < 4294967296) : ∃ p6 p11 p25 q B r1 r2 r3 C : Nat,
    Hid (turnR e 6 = p6 ∧ turnR e 11 = p11 ∧ turnR e 25 = p25 ∧ bg1 e = B ∧ chN e f g = C) ∧
      (bits .xor .i64 (p6 : Int) (p11 : Int) = (q : Int) ∧ bits .xor .i64 (q : Int) (p25 : Int) = (B : Int) ∧ bits .and .i64 (e : Int) (f : Int) = (r1 : Int) ∧ bits .xor .i64 4294967295 (e : Int) = (r2 : Int) ∧
        bits .and .i64 (r2 : Int) (g : Int) = (r3 : Int) ∧ bits .xor .i64 (r1 : Int) (r3 : Int) = (C : Int)) ∧ B < 4294967296 ∧ C < 4294967296 := by
  have h1 := turnR_lt e 6
  have h2 := turnR_lt e 11
  have h3 := turnR_lt e 25
  have h4 := xor_lt h1 h2
  have h5 : 4294967295 ^^^ e < 4294967296 := xor_lt (by decide) he
  have h6 : e &&& f < 4294967296 := and_lt he
  have h7 : (4294967295 ^^^ e) &&& g < 4294967296 := and_lt h5
  exact ⟨_, _, _, _, _, _, _, _, _, Lib.hid ⟨rfl, rfl, rfl, rfl, rfl⟩,
    ⟨i64_xor _ _ (by omega) (by omega), i64_xor _ _ (by omega) (by omega), i64_and _ _ (by omega), i64_xor 4294967295 _ (by omega) (by omega), i64_and _ _ (by omega), i64_xor _ _ (by omega) (by omega)⟩, bg1_lt _, chN_lt he⟩
theorem u_facts {a b c : Nat} (ha : a < 4294967296) (hb : b < 4294967296) (_hc : c < 4294967296) : ∃ p2 p13 p22 q B r1 r2 r3 r4 C : Nat,
    Hid (turnR a 2 = p2 ∧ turnR a 13 = p13 ∧ turnR a 22 = p22 ∧ bg0 a = B ∧ majN a b c = C) ∧
      (bits .xor .i64 (p2 : Int) (p13 : Int) = (q : Int) ∧ bits .xor .i64 (q : Int) (p22 : Int) = (B : Int) ∧ bits .and .i64 (a : Int) (b : Int) = (r1 : Int) ∧ bits .and .i64 (a : Int) (c : Int) = (r2 : Int) ∧
        bits .xor .i64 (r1 : Int) (r2 : Int) = (r4 : Int) ∧ bits .and .i64 (b : Int) (c : Int) = (r3 : Int) ∧ bits .xor .i64 (r4 : Int) (r3 : Int) = (C : Int)) ∧ B < 4294967296 ∧ C < 4294967296 := by
  have h1 := turnR_lt a 2
  have h2 := turnR_lt a 13
  have h3 := turnR_lt a 22
  have h4 := xor_lt h1 h2
  have h5 : a &&& b < 4294967296 := and_lt ha
  have h6 : a &&& c < 4294967296 := and_lt ha
  have h7 : b &&& c < 4294967296 := and_lt hb
  have h8 := xor_lt h5 h6
  exact ⟨_, _, _, _, _, _, _, _, _, _, Lib.hid ⟨rfl, rfl, rfl, rfl, rfl⟩,
    ⟨i64_xor _ _ (by omega) (by omega), i64_xor _ _ (by omega) (by omega), i64_and _ _ (by omega), i64_and _ _ (by omega), i64_xor _ _ (by omega) (by omega), i64_and _ _ (by omega), i64_xor _ _ (by omega) (by omega)⟩, bg0_lt _, majN_lt ha hb⟩
theorem blockW_at {h : List Nat} {b : List UInt8} (hl : h.length = 8) (k : Nat) (hk : k < 8) : (blockW h b).getD k 0 = (h.getD k 0 + ((rounds (sched b 48) (St.of h) 64).list).getD k 0) % 4294967296 := by
  have hr : ((rounds (sched b 48) (St.of h) 64).list).length = 8 := rfl
  unfold blockW
  simp only [List.getD_eq_getElem?_getD]
  rw [List.getElem?_zipWith, List.getElem?_eq_getElem (show k < h.length by omega), List.getElem?_eq_getElem (by omega)]
  rfl
theorem St_words {s : St} (h : s.Ok) : Words s.list := by
  obtain ⟨h0, h1, h2, h3, h4, h5, h6, h7⟩ := h
  intro x hx
  simp only [St.list, List.mem_cons, List.not_mem_nil, or_false] at hx
  rcases hx with rfl | rfl | rfl | rfl | rfl | rfl | rfl | rfl <;> assumption
theorem new_state {R : St} {sa sb sc sd se sf sg sh kn wn B C B' C' T U : Nat} (h : R = (St.mk sa sb sc sd se sf sg sh).step kn wn) (h1 : bg1 se = B) (h2 : chN se sf sg = C) (h3 : bg0 sa = B') (h4 : majN sa sb sc = C')
    (hT : T = sh + B + C + kn + wn) (hU : U = B' + C') :
    [bits .and .i64 ((T : Int) + (U : Int)) 4294967295, (sa : Int), (sb : Int), (sc : Int), bits .and .i64 ((sd : Int) + (T : Int)) 4294967295, (se : Int), (sf : Int), (sg : Int)] = wi R.list := by
  have e1 := i64_low (T + U)
  have e2 := i64_low (sd + T)
  rw [Int.natCast_add] at e1 e2
  rw [e1, e2, h]
  have ht : tOf (St.mk sa sb sc sd se sf sg sh) kn wn = T := by unfold tOf; simp only; rw [h1, h2, hT]
  have hu : uOf (St.mk sa sb sc sd se sf sg sh) = U := by unfold uOf; simp only; rw [h3, h4, hU]
  unfold St.step
  rw [ht, hu]
  rfl
theorem and_sum {x y : Nat} (hx : x < 4294967296) (hy : y < 4294967296) : bits .and .i64 (IntKind.i64.wrap ((x : Int) + (y : Int))) 4294967295 = (((x + y) % 4294967296 : Nat) : Int) := by
  rw [← i64_low, wrapI, wrap64_small _ (by omega) (by omega), Int.natCast_add]
theorem wi_cell {w : World} {p off : Nat} {l : List Nat} {k : Nat} (h : w.cell? ⟨p, off + k, none⟩ = some (.int .i64 (it (wi l) k))) : w.cell? ⟨p, off + k, none⟩ = some (.int .i64 (l.getD k 0 : Int)) := by rw [h, it_wi]

set_option maxRecDepth 100000 in
set_option maxHeartbeats 4000000 in
theorem specShaBlock_yes (v u : Value) (h : List Nat) (b : List UInt8) (w : World) (hs : SlI w w.heap.size v (wi h)) (hs' : Sl w w.heap.size u b) (hh : h.length = 8) (hbb : b.length = 64) (hw : Words h) :
    Calls Tryd.prog 107 #[v, u] w (FreshI w (wi (blockW h b))) := by
  obtain ⟨i0, hi, hz0, hz1, hz2⟩ := info_parts i64info
  have hs0 := hs
  obtain ⟨A, c, rfl, h1, h2, h0, h3⟩ := hs
  obtain ⟨A', c', rfl, h1', h2', h0', h3'⟩ := hs'
  rw [wi_length, hh] at h1 h3 hs0 ⊢
  rw [hbb] at h1' h3' ⊢
  unfold maxLen at h2 h2'
  obtain ⟨p, off, rfl, hpb, hcell⟩ := h3 (by omega)
  obtain ⟨p', off', rfl, hpb', hcell'⟩ := h3' (by omega)
  clear h0 h0' h3 h3'
  have HS0 := Lib.hid hs0
  clear hs0
  have HC := Lib.hid hcell
  have HC' := Lib.hid hcell'
  clear hcell hcell'
  have HH := Lib.hid hh
  have HB := Lib.hid hbb
  clear hh hbb
  go_enter Tryd.func107, Tryd.ntmps107
  go_wp2
  go_loopw [33] (fun i wr => ∃ k : Nat, k ≤ 8 ∧ i = .int .i64 k ∧ w = wr)
    (fun i _ => 8 - (intOf i).toNat)
  case atStart => exact ⟨0, Nat.zero_le _, rfl, rfl⟩
  case round =>
    obtain ⟨k, hk, rfl, rfl⟩ := hrel
    by_cases hlt : k < 8
    · have hc0 := wi_cell (HC.out k hlt)
      have hx := hw.at_ k
      generalize h.getD k 0 = x at hc0 hx
      go_wp2_with (go_at_call 123; refine (l04Word_yes _ _ (by omega) (by omega)).mono ?_; rintro e w' ⟨rfl, rfl⟩)
      go_roundw
      case rel => exact ⟨k + 1, by omega, by go_num, trivial⟩
      case measure => simp [intOf]; omega
    · have hk8 : (k : Int) = 8 := by omega
      rw [hk8]
      clear hk8
      have hnl : ¬ (8 : Int) < 8 := by decide
      go_wp2
      clear hlt hk k hnl
      have hstart : OwnI 3 (w.alloc (.cells #[] 3)) w.heap.size (.slice (some ⟨w.heap.size, 0, none⟩) 0 0) (wi (firstW b 0)) :=
        World.ownsRow_lit w #[] 0 (Nat.le_refl _) (by simp [maxLen]) rfl
      have hbstart : Below w.heap.size w (w.alloc (.cells #[] 3)) := (Below.refl _ _).alloc (Nat.le_refl _) _
      generalize w.alloc (.cells #[] 3) = w1 at hstart hbstart
      go_loopw [7, 8] (fun s i wr => ∃ j m : Nat, j ≤ 16 ∧ m = 4 * j ∧ i = .int .i64 m ∧ OwnI 3 wr w.heap.size s (wi (firstW b j)) ∧ Below w.heap.size w wr)
        (fun _ i _ => 64 - (intOf i).toNat)
      case atStart => exact ⟨0, 0, Nat.zero_le _, rfl, rfl, hstart, hbstart⟩
      case round =>
        obtain ⟨j, m, hj, hm, rfl, hown, hbel⟩ := hrel
        clear hstart hbstart
        by_cases hlt16 : j < 16
        ·
          -- L1<
          have hm64 : m + 3 < 64 := by omega
          have hm0 : m < 64 := by omega
          have hb0 := (hbel.cell (p := ⟨p', off' + m, none⟩) hpb').trans (HC'.out m (by omega))
          have hb1 := (hbel.cell (p := ⟨p', off' + (m + 1), none⟩) hpb').trans (HC'.out (m + 1) (by omega))
          have hb2 := (hbel.cell (p := ⟨p', off' + (m + 2), none⟩) hpb').trans (HC'.out (m + 2) (by omega))
          have hb3 := (hbel.cell (p := ⟨p', off' + (m + 3), none⟩) hpb').trans (HC'.out (m + 3) (by omega))
          rw [bt_by8] at hb0 hb1 hb2 hb3
          have hv : wordAt b j = by8 b m * 16777216 + by8 b (m + 1) * 65536 + by8 b (m + 2) * 256 + by8 b (m + 3) := by rw [hm]; rfl
          have l0 := by8_lt b m
          have l1 := by8_lt b (m + 1)
          have l2 := by8_lt b (m + 2)
          have l3 := by8_lt b (m + 3)
          generalize by8 b m = x0 at hb0 hv l0
          generalize by8 b (m + 1) = x1 at hb1 hv l1
          generalize by8 b (m + 2) = x2 at hb2 hv l2
          generalize by8 b (m + 3) = x3 at hb3 hv l3
          have hX : w.cell? ⟨p', off' + m, none⟩ = some (.int .u8 (x0 : Int)) ∧ w.cell? ⟨p', off' + (m + 1), none⟩ = some (.int .u8 (x1 : Int)) ∧ w.cell? ⟨p', off' + (m + 2), none⟩ = some (.int .u8 (x2 : Int)) ∧ w.cell? ⟨p', off' + (m + 3), none⟩ = some (.int .u8 (x3 : Int)) :=
            ⟨(hbel.cell (p := ⟨p', off' + m, none⟩) hpb').symm.trans hb0, (hbel.cell (p := ⟨p', off' + (m + 1), none⟩) hpb').symm.trans hb1, (hbel.cell (p := ⟨p', off' + (m + 2), none⟩) hpb').symm.trans hb2, (hbel.cell (p := ⟨p', off' + (m + 3), none⟩) hpb').symm.trans hb3⟩
          have hi1 : IntKind.i64.wrap ((m : Int) + 1) = ((m + 1 : Nat) : Int) := wrap_plus m 1 (by omega)
          have hi2 : IntKind.i64.wrap ((m : Int) + 2) = ((m + 2 : Nat) : Int) := wrap_plus m 2 (by omega)
          have hi3 : IntKind.i64.wrap ((m : Int) + 3) = ((m + 3 : Nat) : Int) := wrap_plus m 3 (by omega)
          have hm1 : m + 1 < 64 := by omega
          have hm2 : m + 2 < 64 := by omega
          generalize m + 1 = m1 at hb1 hi1 hm1 hX
          generalize m + 2 = m2 at hb2 hi2 hm2 hX
          generalize m + 3 = m3 at hb3 hi3 hm64 hX
          have HX := Lib.hid hX
          clear hX
          have hm1' : (m1 : Int) < 64 := by omega
          have hm2' : (m2 : Int) < 64 := by omega
          have hm3' : (m3 : Int) < 64 := by omega
          have Hv := Lib.hid hv
          have Hm := Lib.hid hm
          clear hv hm
          have hfl : (wi (firstW b j)).length ≤ 16 := by rw [wi_length, firstW_length]; exact hj
          go_wp2_with fail
          have hownd : OwnI 3 wr.drew w.heap.size u7 (wi (firstW b j)) := hown
          go_region_held3 (fun w' => w'.cell? ⟨p', off' + m, none⟩ = some (.int .u8 (x0 : Int)) ∧ w'.cell? ⟨p', off' + m1, none⟩ = some (.int .u8 (x1 : Int)) ∧ w'.cell? ⟨p', off' + m2, none⟩ = some (.int .u8 (x2 : Int)) ∧ w'.cell? ⟨p', off' + m3, none⟩ = some (.int .u8 (x3 : Int)))
            (first
              | go_keep
              | exact ⟨(hb2.cell (p := ⟨p', off' + m, none⟩) hpb').trans HX.out.1, (hb2.cell (p := ⟨p', off' + m1, none⟩) hpb').trans HX.out.2.1, (hb2.cell (p := ⟨p', off' + m2, none⟩) hpb').trans HX.out.2.2.1, (hb2.cell (p := ⟨p', off' + m3, none⟩) hpb').trans HX.out.2.2.2⟩)
            ((refine step_appI1 (W := w) (w := wr.drew) rfl (.tmp 46) (.tmp 76) 25 rfl 3 i0 Tryd.underlying25 hi hz0 hz1 hz2 u7 (wi (firstW b j)) (by rfl) _ (by rfl) hownd hbel.drew (by omega) ?_; intro v2 w2 hown2 hb2))
          rw [word_bits l0 l1 l2 l3] at hown2
          go_wp2
          go_roundw
          case rel =>
            refine ⟨j + 1, m + 4, by omega, by have := Hm.out; omega, by go_num, ?_, hb2⟩
            rw [firstW_succ, wi_app, Hv.out]
            exact hown2
          case measure => simp [intOf]; omega
          -- L1>
        · obtain rfl : j = 16 := by omega
          have hm64 : (m : Int) = 64 := by omega
          rw [hm64]
          clear hm64 hm hj hlt16 m
          go_wp2
          have hs48 : firstW b 16 = sched b 0 := rfl
          rw [hs48] at hown
          clear hs48
          go_loopw [7, 9] (fun s i wq => ∃ n m : Nat, n ≤ 48 ∧ m = 16 + n ∧ i = .int .i64 m ∧ OwnI 3 wq w.heap.size s (wi (sched b n)) ∧ Below w.heap.size w wq)
            (fun _ i _ => 64 - (intOf i).toNat)
          case atStart => exact ⟨0, 16, Nat.zero_le _, rfl, rfl, hown, hbel⟩
          case round =>
            clear hown hbel
            obtain ⟨n, m, hn, hm, rfl, hown, hbel⟩ := hrel
            by_cases hlt48 : n < 48
            ·
              -- L2<
              obtain ⟨g, cap, rfl, hg1, hg2, hgB, hgS⟩ := ownI_form hown (by rw [wi_length, sched_length]; omega)
              have hlen : (wi (sched b n)).length = m := by rw [wi_length, sched_length]; omega
              have hat : ∀ q, q < m → wr.cell? ⟨g, q, none⟩ = some (.int .i64 ((sched b n).getD q 0 : Int)) := fun q hq => by
                have := (World.ownsRow.cellAt hown q (by omega)).trans (is_get _ q (by omega))
                rw [this, it_wi]
              rw [hlen] at hg1 hown ⊢
              unfold maxLen at hg2
              have hx := (sched_words b n).at_ (n + 1)
              have hy := (sched_words b n).at_ (n + 14)
              have hz := (sched_words b n).at_ n
              have ht := (sched_words b n).at_ (n + 9)
              have hcx := hat (n + 1) (by omega)
              have hcy := hat (n + 14) (by omega)
              have hcz := hat n (by omega)
              have hct := hat (n + 9) (by omega)
              have hnw : nextW (sched b n) n = ((sched b n).getD n 0 + sg0 ((sched b n).getD (n + 1) 0) + (sched b n).getD (n + 9) 0 + sg1 ((sched b n).getD (n + 14) 0)) % 4294967296 := rfl
              generalize (sched b n).getD (n + 1) 0 = x at hx hcx hnw
              generalize (sched b n).getD (n + 14) 0 = y at hy hcy hnw
              generalize (sched b n).getD n 0 = z at hz hcz hnw
              generalize (sched b n).getD (n + 9) 0 = t at ht hct hnw
              clear hat
              obtain ⟨px, qx, rx, sx, HX, ex1, ex2, hsx⟩ := sg0_facts x hx
              obtain ⟨py, qy, ry, sy, HY, ey1, ey2, hsy⟩ := sg1_facts y hy
              rw [HX.out.2.2, HY.out.2.2] at hnw
              have HN := Lib.hid hnw
              clear hnw
              have i15 : (m : Int) - 15 = ((n + 1 : Nat) : Int) := by omega
              have i2 : (m : Int) - 2 = ((n + 14 : Nat) : Int) := by omega
              have w16 : IntKind.i64.wrap ((m : Int) - 16) = (n : Int) := by rw [wrapI, wrap64_small _ (by omega) (by omega)]; omega
              have w7 : IntKind.i64.wrap ((m : Int) - 7) = ((n + 9 : Nat) : Int) := by rw [wrapI, wrap64_small _ (by omega) (by omega)]; omega
              have bx : ((n + 1 : Nat) : Int) < (m : Int) := by omega
              have by' : ((n + 14 : Nat) : Int) < (m : Int) := by omega
              have bz : (n : Int) < (m : Int) := by omega
              have bt' : ((n + 9 : Nat) : Int) < (m : Int) := by omega
              have Hm := Lib.hid hm
              generalize n + 1 = nx at hcx i15 bx
              generalize n + 14 = ny at hcy i2 by'
              generalize n + 9 = nt at hct w7 bt'
              have hm64 : (m : Int) < 64 := by omega
              clear hm
              go_wp2_with fail
              refine (l04Turn_any x 7 _ (by decide)).mono ?_
              rw [HX.out.1]
              rintro e _ ⟨rfl, d1, rfl⟩
              go_wp2_with fail
              refine (l04Turn_any x 18 _ (by decide)).mono ?_
              rw [HX.out.2.1]
              rintro e _ ⟨rfl, d2, rfl⟩
              go_wp2_with fail
              refine (l04Turn_any y 17 _ (by decide)).mono ?_
              rw [HY.out.1]
              rintro e _ ⟨rfl, d3, rfl⟩
              go_wp2_with fail
              refine (l04Turn_any y 19 _ (by decide)).mono ?_
              rw [HY.out.2.1]
              rintro e _ ⟨rfl, d4, rfl⟩
              go_wp2_with fail
              have hown8 : OwnI 3 (wr.drewN (d1 + d2 + d3 + d4)) w.heap.size (.slice (some ⟨g, 0, none⟩) m cap) (wi (sched b n)) := hown.drewN _
              have hbel8 := below_drewN hbel (d1 + d2 + d3 + d4)
              have hcz8 : (wr.drewN (d1 + d2 + d3 + d4)).cell? ⟨g, n, none⟩ = some (.int .i64 (z : Int)) := hcz
              have hct8 : (wr.drewN (d1 + d2 + d3 + d4)).cell? ⟨g, nt, none⟩ = some (.int .i64 (t : Int)) := hct
              clear hown hbel hcz hct hcx hcy ex1 ex2 ey1 ey2 i15 i2
              generalize wr.drewN (d1 + d2 + d3 + d4) = w8 at hown8 hbel8 hcz8 hct8 ⊢
              have hownd : OwnI 3 w8.drew w.heap.size (.slice (some ⟨g, 0, none⟩) m cap) (wi (sched b n)) := hown8
              have hbeld := hbel8.drew
              have hlen' : (wi (sched b n)).length ≤ 4398046511104 := by omega
              go_region_law (refine step_appI1 (W := w) (w := w8.drew) rfl (.tmp 108) (.tmp 125) 25 rfl 3 i0 Tryd.underlying25 hi hz0 hz1 hz2 (.slice (some ⟨g, 0, none⟩) m cap) (wi (sched b n)) (by simp [Act.eval]) _ (by simp [Act.eval]) hownd hbeld hlen' ?_; intro v2 w2 hown2 hb2)
              all_goals
                rw [next_bits hz hsx ht hsy, ← HN.out] at hown2
                have hown3 : OwnI 3 w2 w.heap.size v2 (wi (sched b (n + 1))) := by
                  show OwnI _ _ _ _ (wi (sched b n ++ [nextW (sched b n) n]))
                  rw [wi_app]
                  exact hown2
                clear hown2 hownd hbeld hown8 hbel8 hcz8 hct8 w16 w7
                go_wp2
                go_roundw
                case rel => exact ⟨n + 1, m + 1, by omega, by have := Hm.out; omega, by go_num, hown3, hb2⟩
                case measure => simp [intOf]; omega
              -- L2>
            · obtain rfl : n = 48 := by omega
              have hm64 : (m : Int) = 64 := by omega
              rw [hm64]
              clear hm64 hm hn hlt48 m
              go_wp2_with fail
              refine (l04K_any _).mono ?_
              rintro e w3 ⟨vk, rfl, hownk, hbk⟩
              have hbw3 : Below w.heap.size w w3 := hbel.trans (hbk.mono hbel.size)
              have hW := hown.sl.up hbk
              have hK := hownk.sl
              have hH := (HS0.out.below hbw3).mono hbw3.size
              have lW : (wi (sched b 48)).length = 64 := by rw [wi_length, sched_length]
              have lK : (wi kk).length = 64 := by rw [wi_length, kk_length]
              obtain ⟨Aw, cw, rfl, w1, w2, w0, w4⟩ := hW
              obtain ⟨Ak, ck, rfl, k1, k2, k0, k4⟩ := hK
              rw [lW] at w1 w4 hown ⊢
              rw [lK] at k1 k4 hownk ⊢
              obtain ⟨bw, ow, rfl, hbw, hcw⟩ := w4 (by omega)
              obtain ⟨bk, ok, rfl, hbkk, hck⟩ := k4 (by omega)
              have HCW := Lib.hid hcw
              have HCK := Lib.hid hck
              unfold maxLen at w2 k2
              clear w0 w4 k0 k4 lW lK hcw hck hownk hbk hown hbel
              have hstart : OwnI 3 (w3.alloc (.cells #[] 3)) w3.heap.size (.slice (some ⟨w3.heap.size, 0, none⟩) 0 0) [] :=
                World.ownsRow_lit w3 #[] 0 (Nat.le_refl _) (by simp [maxLen]) rfl
              have hbstart : Below w3.heap.size w3 (w3.alloc (.cells #[] 3)) := (Below.refl _ _).alloc (Nat.le_refl _) _
              have hH1 := hH.up hbstart
              have hlh : ([] : List Int).length + (wi h).length ≤ 4398046511104 := by rw [wi_length, HH.out]; decide
              go_wp2_with (at_builtin; refine wpList_appIS (W := w3) rfl _ _ 25 rfl 3 i0 Tryd.underlying25 hi hz0 hz1 hz2 _ [] (by rfl) _ (wi h) (by rfl) hH1 hstart hbstart hlh ?_; intro v4 w4 hown4 hb4)
              have hv4 : SlI w4 w4.heap.size v4 (wi (rounds (sched b 48) (St.of h) 0).list) := by
                show SlI _ _ _ (wi (St.of h).list)
                rw [St.of_list HH.out]
                exact hown4.sl
              clear hown4 hH1 hstart hbstart
              have hok := St.of_ok hw
              obtain ⟨s0, hs9⟩ : ∃ s0, s0 = St.of h := ⟨_, rfl⟩
              rw [← hs9] at hv4 hok
              have HS9 := Lib.hid hs9
              clear hs9
              go_loopw [15, 16] (fun v i wr => ∃ n : Nat, n ≤ 64 ∧ i = .int .i64 n ∧ SlI wr wr.heap.size v (wi (rounds (sched b 48) s0 n).list) ∧ Below w3.heap.size w3 wr)
                (fun _ i _ => 64 - (intOf i).toNat)
              case atStart => exact ⟨0, Nat.zero_le _, rfl, hv4, hb4⟩
              case round =>
                clear hv4 hb4
                obtain ⟨n, hn, rfl, hv, hbel⟩ := hrel
                by_cases hlt64 : n < 64
                ·
                  -- L3<
                  have hsok := rounds_ok (sched b 48) hok n
                  have hnext : rounds (sched b 48) s0 (n + 1) = (rounds (sched b 48) s0 n).step (kk.getD n 0) ((sched b 48).getD n 0) := rfl
                  generalize rounds (sched b 48) s0 n = s at hv hsok hnext
                  obtain ⟨sa, sb, sc, sd, se, sf, sg, sh⟩ := s
                  obtain ⟨ba, bb, bc, bd, be, bf, bg, bh⟩ := hsok
                  simp only at ba bb bc bd be bf bg bh
                  obtain ⟨Av, cv, rfl, v1, v2, v0, v3⟩ := hv
                  have lv : (wi (St.list ⟨sa, sb, sc, sd, se, sf, sg, sh⟩)).length = 8 := rfl
                  rw [lv] at v1 v3 ⊢
                  obtain ⟨bv, ov, rfl, hbv, hcv⟩ := v3 (by omega)
                  unfold maxLen at v2
                  clear v0 v3 lv
                  have c0 : wr.cell? ⟨bv, ov, none⟩ = some (.int .i64 (sa : Int)) := hcv 0 (by omega)
                  have c1 : wr.cell? ⟨bv, ov + 1, none⟩ = some (.int .i64 (sb : Int)) := hcv 1 (by omega)
                  have c2 : wr.cell? ⟨bv, ov + 2, none⟩ = some (.int .i64 (sc : Int)) := hcv 2 (by omega)
                  have c3 : wr.cell? ⟨bv, ov + 3, none⟩ = some (.int .i64 (sd : Int)) := hcv 3 (by omega)
                  have c4 : wr.cell? ⟨bv, ov + 4, none⟩ = some (.int .i64 (se : Int)) := hcv 4 (by omega)
                  have c5 : wr.cell? ⟨bv, ov + 5, none⟩ = some (.int .i64 (sf : Int)) := hcv 5 (by omega)
                  have c6 : wr.cell? ⟨bv, ov + 6, none⟩ = some (.int .i64 (sg : Int)) := hcv 6 (by omega)
                  have c7 : wr.cell? ⟨bv, ov + 7, none⟩ = some (.int .i64 (sh : Int)) := hcv 7 (by omega)
                  clear hcv
                  have ck' : wr.cell? ⟨bk, ok + n, none⟩ = some (.int .i64 (kk.getD n 0 : Int)) := by
                    rw [hbel.cell (p := ⟨bk, ok + n, none⟩) hbkk, HCK.out n hlt64, it_wi]
                  have cw' : wr.cell? ⟨bw, ow + n, none⟩ = some (.int .i64 ((sched b 48).getD n 0 : Int)) := by
                    rw [hbel.cell (p := ⟨bw, ow + n, none⟩) hbw, HCW.out n hlt64, it_wi]
                  have bkn := kk_words.at_ n
                  have bwn := (sched_words b 48).at_ n
                  generalize kk.getD n 0 = kn at ck' bkn hnext
                  generalize (sched b 48).getD n 0 = wn at cw' bwn hnext
                  have HX := Lib.hid hnext
                  clear hnext
                  obtain ⟨p6, p11, p25, q, B, r1, r2, r3, C, HT, ⟨t1, t2, t3, t4, t5, t6⟩, bB, bC⟩ := t_facts be bf bg
                  go_wp2_with fail
                  have Q6 := Lib.hid (fun (m : Nat) => l04Turn_any se 6 (wr.drewN m) (by decide))
                  have Q11 := Lib.hid (fun (m : Nat) => l04Turn_any se 11 (wr.drewN m) (by decide))
                  have Q25 := Lib.hid (fun (m : Nat) => l04Turn_any se 25 (wr.drewN m) (by decide))
                  rw [HT.out.1] at Q6
                  rw [HT.out.2.1] at Q11
                  rw [HT.out.2.2.1] at Q25
                  go_quiet (first
                    | (go_at_call_of 124 (Value.int IntKind.i64 6); exact Calls.quiet_of (Q6.out _))
                    | (go_at_call_of 124 (Value.int IntKind.i64 11); exact Calls.quiet_of (Q11.out _))
                    | (go_at_call_of 124 (Value.int IntKind.i64 25); exact Calls.quiet_of (Q25.out _)))
                  have hbel8 := below_drewN hbel nq
                  have d0 : (wr.drewN nq).cell? ⟨bv, ov, none⟩ = some (.int .i64 (sa : Int)) := c0
                  have d1 : (wr.drewN nq).cell? ⟨bv, ov + 1, none⟩ = some (.int .i64 (sb : Int)) := c1
                  have d2 : (wr.drewN nq).cell? ⟨bv, ov + 2, none⟩ = some (.int .i64 (sc : Int)) := c2
                  have d3 : (wr.drewN nq).cell? ⟨bv, ov + 3, none⟩ = some (.int .i64 (sd : Int)) := c3
                  have d4 : (wr.drewN nq).cell? ⟨bv, ov + 4, none⟩ = some (.int .i64 (se : Int)) := c4
                  have d5 : (wr.drewN nq).cell? ⟨bv, ov + 5, none⟩ = some (.int .i64 (sf : Int)) := c5
                  have d6 : (wr.drewN nq).cell? ⟨bv, ov + 6, none⟩ = some (.int .i64 (sg : Int)) := c6
                  clear c0 c1 c2 c3 c4 c5 c6 c7 ck' cw' hbel t1 t2 t3 t4 t5 t6 Q6 Q11 Q25
                  generalize wr.drewN nq = w8 at hbel8 d0 d1 d2 d3 d4 d5 d6 ⊢
                  obtain ⟨T, hT⟩ : ∃ T : Nat, T = sh + B + C + kn + wn := ⟨_, rfl⟩
                  have hT' : (sh : Int) + (B : Int) + (C : Int) + (kn : Int) + (wn : Int) = (T : Int) := by omega
                  have bT : T < 21474836480 := by omega
                  rw [hT']
                  clear hT'
                  have HTT := Lib.hid hT
                  clear hT
                  obtain ⟨p2, p13, p22, q', B', r1', r2', r3', r4', C', HU, ⟨t1, t2, t3, t4, t5, t6, t7⟩, bB', bC'⟩ := u_facts ba bb bc
                  have Q2 := Lib.hid (fun (m : Nat) => l04Turn_any sa 2 (w8.drewN m) (by decide))
                  have Q13 := Lib.hid (fun (m : Nat) => l04Turn_any sa 13 (w8.drewN m) (by decide))
                  have Q22 := Lib.hid (fun (m : Nat) => l04Turn_any sa 22 (w8.drewN m) (by decide))
                  rw [HU.out.1] at Q2
                  rw [HU.out.2.1] at Q13
                  rw [HU.out.2.2.1] at Q22
                  go_wp2_with fail
                  go_quiet (first
                    | (go_at_call_of 124 (Value.int IntKind.i64 2); exact Calls.quiet_of (Q2.out _))
                    | (go_at_call_of 124 (Value.int IntKind.i64 13); exact Calls.quiet_of (Q13.out _))
                    | (go_at_call_of 124 (Value.int IntKind.i64 22); exact Calls.quiet_of (Q22.out _)))
                  have hbel9 := below_drewN hbel8 nq
                  have c0 : (w8.drewN nq).cell? ⟨bv, ov, none⟩ = some (.int .i64 (sa : Int)) := d0
                  have c1 : (w8.drewN nq).cell? ⟨bv, ov + 1, none⟩ = some (.int .i64 (sb : Int)) := d1
                  have c2 : (w8.drewN nq).cell? ⟨bv, ov + 2, none⟩ = some (.int .i64 (sc : Int)) := d2
                  have c3 : (w8.drewN nq).cell? ⟨bv, ov + 3, none⟩ = some (.int .i64 (sd : Int)) := d3
                  have c4 : (w8.drewN nq).cell? ⟨bv, ov + 4, none⟩ = some (.int .i64 (se : Int)) := d4
                  have c5 : (w8.drewN nq).cell? ⟨bv, ov + 5, none⟩ = some (.int .i64 (sf : Int)) := d5
                  have c6 : (w8.drewN nq).cell? ⟨bv, ov + 6, none⟩ = some (.int .i64 (sg : Int)) := d6
                  clear d0 d1 d2 d3 d4 d5 d6 hbel8 t1 t2 t3 t4 t5 t6 t7 Q2 Q13 Q22
                  generalize w8.drewN nq = w9 at hbel9 c0 c1 c2 c3 c4 c5 c6 ⊢
                  obtain ⟨U, hU⟩ : ∃ U : Nat, U = B' + C' := ⟨_, rfl⟩
                  have hU' : (B' : Int) + (C' : Int) = (U : Int) := by omega
                  have bU : U < 8589934592 := by omega
                  rw [hU']
                  clear hU'
                  have HUU := Lib.hid hU
                  clear hU
                  go_wp2_with fail
                  go_still_tail 28, (by kernel_rfl)
                  change wpList _ _ _ _ _ w9.drew
                  have hbel10 := hbel9.drew
                  clear c0 c1 c2 c3 c4 c5 c6 hbel9
                  generalize w9.drew = w10 at hbel10 ⊢
                  have hR := new_state HX.out HT.out.2.2.2.1 HT.out.2.2.2.2 HU.out.2.2.2.1 HU.out.2.2.2.2 HTT.out HUU.out
                  have hnew : SlI (w10.alloc (.cells #[.int .i64 (bits .and .i64 ((T : Int) + (U : Int)) 4294967295), .int .i64 (sa : Int), .int .i64 (sb : Int), .int .i64 (sc : Int), .int .i64 (bits .and .i64 ((sd : Int) + (T : Int)) 4294967295), .int .i64 (se : Int), .int .i64 (sf : Int), .int .i64 (sg : Int)] 3))
                      (w10.alloc (.cells #[.int .i64 (bits .and .i64 ((T : Int) + (U : Int)) 4294967295), .int .i64 (sa : Int), .int .i64 (sb : Int), .int .i64 (sc : Int), .int .i64 (bits .and .i64 ((sd : Int) + (T : Int)) 4294967295), .int .i64 (se : Int), .int .i64 (sf : Int), .int .i64 (sg : Int)] 3)).heap.size
                      (.slice (some ⟨w10.heap.size, 0, none⟩) 8 8) (wi (rounds (sched b 48) s0 (n + 1)).list) := by
                    rw [← hR]
                    exact OwnI.sl (E := 3) (B := w10.heap.size) (World.ownsRow_lit w10 _ 8 (Nat.le_refl _) (by simp [maxLen]) rfl)
                  have hbnew := hbel10.alloc hbel10.size (.cells #[.int .i64 (bits .and .i64 ((T : Int) + (U : Int)) 4294967295), .int .i64 (sa : Int), .int .i64 (sb : Int), .int .i64 (sc : Int), .int .i64 (bits .and .i64 ((sd : Int) + (T : Int)) 4294967295), .int .i64 (se : Int), .int .i64 (sf : Int), .int .i64 (sg : Int)] 3)
                  have HNEW := Lib.hid hnew
                  have HBN := Lib.hid hbnew
                  clear hnew hbnew hR
                  go_wp2
                  go_roundw
                  case rel => exact ⟨n + 1, by omega, by go_num, HNEW.out, HBN.out⟩
                  case measure => simp [intOf]; omega
                  -- L3>
                · have hn64 : n = 64 := by omega
                  have hni : (n : Int) = 64 := by omega
                  rw [hni]
                  rw [hn64] at hv
                  have hbw4 : Below w.heap.size w wr := hbw3.trans (hbel.mono hbw3.size)
                  have hget : ∀ j, j < 8 → (blockW h b).getD j 0 = (h.getD j 0 + ((rounds (sched b 48) s0 64).list).getD j 0) % 4294967296 := fun j hj => by
                    rw [HS9.out]
                    exact blockW_at HH.out j hj
                  have hzl : (blockW h b).length = 8 := blockW_length b HH.out
                  have hrw := St_words (rounds_ok (sched b 48) hok 64)
                  have hrl : ((rounds (sched b 48) s0 64).list).length = 8 := rfl
                  generalize (rounds (sched b 48) s0 64).list = R at hv hget hrw hrl
                  obtain ⟨Z, hZ⟩ : ∃ Z, Z = blockW h b := ⟨_, rfl⟩
                  rw [← hZ] at hget hzl
                  have HZ := Lib.hid hZ
                  have HG := Lib.hid hget
                  have HZL := Lib.hid hzl
                  clear hn hlt64 hn64 hni hget hZ hzl
                  have hlv : (wi R).length = 8 := by rw [wi_length, hrl]
                  obtain ⟨Av, cv, rfl, v1, v2, v0, v3⟩ := hv
                  rw [hlv] at v1 v3 ⊢
                  obtain ⟨bv, ov, rfl, hbv, hcv⟩ := v3 (by omega)
                  unfold maxLen at v2
                  have HCV := Lib.hid hcv
                  clear v0 v3 hlv hrl hcv
                  have hstart4 : OwnI 3 (wr.alloc (.cells #[] 3)) wr.heap.size (.slice (some ⟨wr.heap.size, 0, none⟩) 0 0) (wi (Z.take 0)) :=
                    World.ownsRow_lit wr #[] 0 (Nat.le_refl _) (by simp [maxLen]) rfl
                  have hbstart4 : Below wr.heap.size wr (wr.alloc (.cells #[] 3)) := (Below.refl _ _).alloc (Nat.le_refl _) _
                  go_wp2
                  generalize hwx : wr = wx at *
                  clear hwx
                  generalize wx.alloc (.cells #[] 3) = w5 at hstart4 hbstart4 ⊢
                  go_loopw [21, 236] (fun s i wq => ∃ j : Nat, j ≤ 8 ∧ i = .int .i64 j ∧ OwnI 3 wq wx.heap.size s (wi (Z.take j)) ∧ Below wx.heap.size wx wq)
                    (fun _ i _ => 8 - (intOf i).toNat)
                  case atStart => exact ⟨0, Nat.zero_le _, rfl, hstart4, hbstart4⟩
                  case round =>
                    clear hstart4 hbstart4
                    obtain ⟨j, hj, rfl, hown, hbelx⟩ := hrel
                    by_cases hlt8 : j < 8
                    · have hji : (j : Int) < 8 := by omega
                      have hpx : p < wx.heap.size := Nat.lt_of_lt_of_le hpb hbw4.size
                      have cx0 : wx.cell? ⟨p, off + j, none⟩ = some (.int .i64 (h.getD j 0 : Int)) := (hbw4.cell (p := ⟨p, off + j, none⟩) hpb).trans (wi_cell (HC.out j hlt8))
                      have cy0 : wx.cell? ⟨bv, ov + j, none⟩ = some (.int .i64 (R.getD j 0 : Int)) := wi_cell (HCV.out j hlt8)
                      have hx := hw.at_ j
                      have hy := hrw.at_ j
                      have hz := HG.out j hlt8
                      have htk : wi (Z.take j) ++ [((Z.getD j 0 : Nat) : Int)] = wi (Z.take (j + 1)) := by
                        rw [List.take_add_one, List.getElem?_eq_getElem (by rw [HZL.out]; exact hlt8), wi_app]
                        simp [wi, List.getD_eq_getElem?_getD, List.getElem?_eq_getElem (show j < Z.length by rw [HZL.out]; exact hlt8)]
                      rw [hz] at htk
                      have hlen : (wi (Z.take j)).length ≤ 8 := by rw [wi_length, List.length_take]; omega
                      generalize h.getD j 0 = x at cx0 hx htk
                      generalize R.getD j 0 = y at cy0 hy htk
                      have hcx := (hbelx.cell (p := ⟨p, off + j, none⟩) hpx).trans cx0
                      have hcy := (hbelx.cell (p := ⟨bv, ov + j, none⟩) hbv).trans cy0
                      have HTK := Lib.hid htk
                      have HCX := Lib.hid cx0
                      have HCY := Lib.hid cy0
                      clear htk cx0 cy0 hz
                      go_wp2_with fail
                      have hownd : OwnI 3 wr.drew wx.heap.size u21 (wi (Z.take j)) := hown
                      go_region_held3 (fun w' => w'.cell? ⟨p, off + j, none⟩ = some (.int .i64 (x : Int)) ∧ w'.cell? ⟨bv, ov + j, none⟩ = some (.int .i64 (y : Int)))
                        (first
                          | go_keep
                          | exact ⟨(hb2.cell (p := ⟨p, off + j, none⟩) hpx).trans HCX.out, (hb2.cell (p := ⟨bv, ov + j, none⟩) hbv).trans HCY.out⟩)
                        ((refine step_appI1 (W := wx) (w := wr.drew) rfl (.tmp 239) (.tmp 250) 25 rfl 3 i0 Tryd.underlying25 hi hz0 hz1 hz2 u21 (wi (Z.take j)) (by rfl) _ (by rfl) hownd hbelx.drew (by omega) ?_; intro v2 w2 hown2 hb2))
                      rw [and_sum hx hy, HTK.out] at hown2
                      go_wp2
                      go_roundw
                      case rel => exact ⟨j + 1, by omega, by go_num, hown2, hb2⟩
                      case measure => simp [intOf]; omega
                    · have hj8 : j = 8 := by omega
                      have hji : (j : Int) = 8 := by omega
                      rw [hji]
                      rw [hj8, List.take_of_length_le (Nat.le_of_eq HZL.out), HZ.out] at hown
                      clear hj hlt8 hj8 hji
                      go_wp2
                      go_ret
                      exact ⟨_, rfl, hown.mono hbw4.size, hbw4.trans (hbelx.mono hbw4.size)⟩
end Go.Proofs.YtdoaikanaodefaaDoor

/- The contracts of ShaBlock and Sha, as their model has them. -/
namespace Go.Proofs.YtdoaikanaodefaaDoor
open Go.ChangeShapes Go.WideShapes Go.ChangeAt Go.RowKit

theorem ownI_none (E : TypeId) (w : World) (B : Nat) : OwnI E w B (.slice none 0 0) [] := World.ownsRow_nil _ _ _ _
set_option maxRecDepth 100000 in
set_option maxHeartbeats 4000000 in
theorem specShaBlock_no (v u : Value) (h : List Int) (b : List UInt8) (w : World) (hs : SlI w w.heap.size v h) (hs' : Sl w w.heap.size u b) (hno : ¬ (hOk h ∧ b.length = 64)) :
    Calls Tryd.prog 107 #[v, u] w (FreshI w []) := by
  obtain ⟨A, c, rfl, h1, h2, h0, h3⟩ := hs
  obtain ⟨A', c', rfl, h1', h2', h0', h3'⟩ := hs'
  unfold maxLen at h2 h2'
  clear h0 h0' h3'
  by_cases hl : h.length = 8
  · by_cases hb : b.length = 64
    · obtain ⟨p, off, rfl, hpb, hcell⟩ := h3 (by omega)
      have HC := Lib.hid hcell
      have HL := Lib.hid hl
      have HN : Hid (¬ hOk h) := Lib.hid fun e => hno ⟨e, hb⟩
      rw [hl] at h1 ⊢
      rw [hb] at h1' ⊢
      clear h3 hcell hl hb hno
      go_enter Tryd.func107, Tryd.ntmps107
      go_wp2
      go_loopw [33] (fun i wr => ∃ k : Nat, k ≤ 8 ∧ i = .int .i64 k ∧ (∀ j, j < k → 0 ≤ it h j ∧ it h j ≤ 4294967295) ∧ w = wr)
        (fun i _ => 8 - (intOf i).toNat)
      case atStart => exact ⟨0, Nat.zero_le _, rfl, fun j hj => absurd hj (Nat.not_lt_zero _), rfl⟩
      case round =>
        obtain ⟨k, hk, rfl, hall, rfl⟩ := hrel
        have HALL := Lib.hid hall
        clear hall
        by_cases hlt : k < 8
        · have hlt8 : (k : Int) < 8 := by omega
          have hc0 := HC.out k (by rw [HL.out]; exact hlt)
          obtain ⟨x, hx⟩ : ∃ x, x = it h k := ⟨_, rfl⟩
          rw [← hx] at hc0
          have HX := Lib.hid hx
          clear hx
          by_cases hwd : 0 ≤ x ∧ x ≤ 4294967295
          · have HALL' : Hid (∀ j, j < k + 1 → 0 ≤ it h j ∧ it h j ≤ 4294967295) := Lib.hid fun j hj => by
              by_cases e : j < k
              · exact HALL.out j e
              · obtain rfl : j = k := by omega
                rw [← HX.out]
                exact hwd
            have HW := Lib.hid hwd
            clear hwd
            go_wp2_with fail
            refine (l04Word_yes _ _ HW.out.1 HW.out.2).mono ?_
            rintro e w' ⟨rfl, rfl⟩
            go_wp2
            go_roundw
            case rel => exact ⟨k + 1, by omega, by go_num, HALL'.out, trivial⟩
            case measure => simp [intOf]; omega
          · have HW := Lib.hid hwd
            clear hwd
            go_wp2_with fail
            refine (l04Word_no _ _ HW.out).mono ?_
            rintro e w' ⟨rfl, rfl⟩
            go_wp2
            go_ret
            exact ⟨_, rfl, ownI_none _ _ _, Below.refl _ _⟩
        · exact absurd (⟨HL.out, fun x hx => by
            obtain ⟨j, hj, rfl⟩ := List.mem_iff_getElem.1 hx
            have := HALL.out j (by rw [HL.out] at hj; omega)
            simpa [it, List.getD_eq_getElem?_getD, List.getElem?_eq_getElem hj] using this⟩ : hOk h) HN.out
    · have hne : ((b.length : Int) != 64) = true := by simp; omega
      rw [hl]
      clear hb hno h3 hl
      go_enter Tryd.func107, Tryd.ntmps107
      go_wp2
      go_ret
      exact ⟨_, rfl, ownI_none _ _ _, Below.refl _ _⟩
  · have hne : ((h.length : Int) != 8) = true := by simp; omega
    clear hl hno h3
    go_enter Tryd.func107, Tryd.ntmps107
    go_wp2
    go_ret
    exact ⟨_, rfl, ownI_none _ _ _, Below.refl _ _⟩
theorem specShaBlock_any (v u : Value) (h : List Int) (b : List UInt8) (w : World) (hs : SlI w w.heap.size v h) (hs' : Sl w w.heap.size u b) (_hbig : h.length ≤ 4294967296) (_hbig' : b.length ≤ 4294967296) :
    Calls Tryd.prog 107 #[v, u] w (FreshI w (shaBlockL h b)) := by
  by_cases ho : hOk h ∧ b.length = 64
  · have e : shaBlockL h b = wi (blockW (h.map Int.toNat) b) := if_pos ho
    obtain ⟨e1, e2⟩ := wi_toNat ho.1
    rw [e]
    refine specShaBlock_yes v u (h.map Int.toNat) b w (by rw [e1]; exact hs) hs' (by rw [List.length_map, ho.1.1]) ho.2 e2
  · have e : shaBlockL h b = [] := if_neg ho
    rw [e]
    exact specShaBlock_no v u h b w hs hs' ho

theorem blocksW_step (p : List UInt8) (n : Nat) (hn : ((p.drop (64 * n)).take 64).length = 64) : shaBlockL (wi (blocksW p n)) ((p.drop (64 * n)).take 64) = wi (blocksW p (n + 1)) := by
  have hw := blocksW_words p n
  have ho : hOk (wi (blocksW p n)) := ⟨by rw [wi_length, blocksW_length], fun x hx => by
    obtain ⟨y, hy, rfl⟩ := List.mem_map.1 hx
    have := hw y hy
    constructor <;> omega⟩
  have e : (wi (blocksW p n)).map Int.toNat = blocksW p n := by
    rw [wi, List.map_map]
    conv => rhs; rw [← List.map_id (blocksW p n)]
    apply List.map_congr_left
    intro y _
    simp
  unfold shaBlockL
  rw [if_pos ⟨ho, hn⟩, e]
  rfl
theorem four_us {x : Nat} (hx : x < 4294967296) : us (four x) = [.int .u8 ((x : Int) / 16777216), .int .u8 ((x : Int) / 65536 % 256), .int .u8 ((x : Int) / 256 % 256), .int .u8 ((x : Int) % 256)] := by
  simp [us, four]
  omega
theorem fours_take {z : List Nat} {k : Nat} (hk : k < z.length) : fours (z.take k) ++ four (z.getD k 0) = fours (z.take (k + 1)) := by
  have e : z.getD k 0 = z[k] := by simp [List.getD_eq_getElem?_getD, List.getElem?_eq_getElem hk]
  rw [List.take_add_one, List.getElem?_eq_getElem hk, e]
  unfold fours
  rw [List.flatMap_append]
  rfl
theorem shaL_is {p : List UInt8} {l : List UInt8} {N : Nat} (hp : p = padL l) (hN : p.length = 64 * N) : fours (blocksW p N) = shaL l := by
  unfold shaL
  rw [← hp, hN, Nat.mul_div_cancel_left _ (by decide)]
theorem padL_most (l : List UInt8) : (padL l).length ≤ l.length + 72 := by
  rw [padL_length]
  unfold zerosOf
  omega
set_option maxRecDepth 100000 in
set_option maxHeartbeats 4000000 in
theorem specSha_any (v : Value) (l : List UInt8) (w : World) (h : Sl w w.heap.size v l) (hl : l.length ≤ 1073741824) :
    Calls Tryd.prog 85 #[v] w (Fresh w (shaL l)) := by
  obtain ⟨i0, hi, hz0, hz1, hz2⟩ := info_parts u8info
  obtain ⟨P, hP⟩ : ∃ P, P = padL l := ⟨_, rfl⟩
  have hmod := padL_mod l
  have hpl := padL_most l
  rw [← hP] at hmod hpl
  obtain ⟨N, hN⟩ : ∃ N, P.length = 64 * N := ⟨P.length / 64, by omega⟩
  have hN2 : N ≤ 16777218 := by omega
  have hfin := shaL_is hP hN
  rw [← hfin]
  have HP := Lib.hid hP
  have HN := Lib.hid hN
  clear hP hmod hpl hfin hN
  go_enter Tryd.func85, Tryd.ntmps85
  go_wp2_with fail
  refine (specShaInit_any w).mono ?_
  rintro ev w1 ⟨hv, rfl, hownh, hb1⟩
  have hsl : SlI w1 w1.heap.size hv (wi (blocksW P 0)) := hownh.sl
  go_wp2_with fail
  refine (specShaPad_any v l w1 (h.up hb1) (by omega)).mono ?_
  rw [← HP.out]
  rintro ev w3 ⟨pv, rfl, hown, hb3⟩
  have hslh := hsl.up hb3
  have hb3' : Below w.heap.size w w3 := hb1.trans (hb3.mono hb1.size)
  clear hsl hownh
  rcases hown.2 with ⟨rfl, h0⟩ | ⟨g, cap, cur, rfl, hgb, hgc, hnc, hcm, hcs, hct⟩
  · have := padL_length l
    rw [← HP.out] at this
    omega
  · obtain ⟨T, hT⟩ : ∃ T, T = P.length := ⟨_, rfl⟩
    rw [← hT] at hnc ⊢
    have hT64 : T = 64 * N := by rw [hT, HN.out]
    have HT := Lib.hid hT
    have HT64 := Lib.hid hT64
    have hTb : T ≤ 1073741952 := by omega
    have hown3' : Sl w3 w3.heap.size (.slice (some ⟨g, 0, none⟩) T cap) P := by rw [hT]; exact hown.sl
    have hcm0 := hcm
    unfold maxLen at hcm
    clear hgc hcs hct hown hT hT64 hb1 hb3
    go_wp2
    go_loopw [3, 5] (fun s i wr => ∃ n m : Nat, n ≤ N ∧ m = 64 * n ∧ i = .int .i64 (m : Int) ∧ SlI wr wr.heap.size s (wi (blocksW P n)) ∧ Sl wr wr.heap.size (.slice (some ⟨g, 0, none⟩) T cap) P ∧ Below w.heap.size w wr)
      (fun _ i _ => T - (intOf i).toNat)
    case atStart => exact ⟨0, 0, Nat.zero_le _, rfl, rfl, hslh, hown3', hb3'⟩
    case round =>
      clear hslh hown3' hb3'
      obtain ⟨n, m, hn, hm, rfl, hsh, hsp, hbel⟩ := hrel
      have HM := Lib.hid hm
      by_cases hlt : n < N
      · have hmT : m + 64 ≤ T := by have := HT64.out; omega
        have hcut : Sl wr wr.heap.size (.slice (some ⟨g, m, none⟩) 64 (cap - m)) ((P.drop (64 * n)).take 64) := by
          rcases hsp with ⟨A', c', e, k1, k2, k0, k3⟩
          simp only [Value.slice.injEq] at e
          obtain ⟨e1, e2, e3⟩ := e
          obtain ⟨b', off', e4, k4, k5⟩ := k3 (by rw [← HT.out]; omega)
          rw [← e1] at e4
          simp only [Option.some.injEq, Addr.mk.injEq, and_true] at e4
          obtain ⟨rfl, rfl⟩ := e4
          exact sl_cut (64 * n) 64 (c := cap) hcm0 k4 k5 (by rw [← HT.out]; omega) m (cap - m) (fun _ => by omega) (by omega) (by omega)
        have hbl : ((P.drop (64 * n)).take 64).length = 64 := by
          rw [List.length_take, List.length_drop, ← HT.out]
          omega
        have hnx := blocksW_step P n hbl
        generalize (P.drop (64 * n)).take 64 = B at hcut hbl hnx
        have HB := Lib.hid hbl
        have HNX := Lib.hid hnx
        clear hm hbl hnx
        have hwl : (wi (blocksW P n)).length ≤ 4294967296 := by rw [wi_length, blocksW_length]; decide
        go_wp2_with fail
        refine (specShaBlock_any _ _ (wi (blocksW P n)) B wr hsh hcut hwl (by rw [HB.out]; decide)).mono ?_
        rw [HNX.out]
        rintro ev w4 ⟨v4, rfl, hown4, hb4⟩
        have hsh4 := hown4.sl
        have hsp4 := hsp.up hb4
        have hb4' := hbel.trans (hb4.mono hbel.size)
        go_wp2
        go_roundw
        case rel => exact ⟨n + 1, m + 64, by omega, by have := HM.out; omega, by go_num, hsh4, hsp4, hb4'⟩
        case measure => simp [intOf]; omega
      · have hnN : n = N := by omega
        have hmT : m = T := by have := HT64.out; omega
        rw [hnN] at hsh
        rw [hmT]
        have hzw := blocksW_words P N
        have hzl := blocksW_length P N
        obtain ⟨Z, hZ⟩ : ∃ Z, Z = blocksW P N := ⟨_, rfl⟩
        rw [← hZ] at hsh hzw hzl
        have HZ := Lib.hid hZ
        have HZL := Lib.hid hzl
        have hlz : (wi Z).length = 8 := by rw [wi_length, hzl]
        obtain ⟨Av, cv, rfl, v1, v2, v0, v3⟩ := hsh
        rw [hlz] at v1 v3 ⊢
        obtain ⟨bv, ov, rfl, hbv, hcv⟩ := v3 (by omega)
        unfold maxLen at v2
        have HCV := Lib.hid hcv
        clear v0 v3 hlz hcv hn hlt hm hnN hmT HM hsp hZ hzl
        have hstart4 : Own 5 (wr.alloc (.cells #[] 5)) wr.heap.size (.slice (some ⟨wr.heap.size, 0, none⟩) 0 0) (fours (Z.take 0)) :=
          World.ownsRow_lit wr #[] 0 (Nat.le_refl _) (by simp [maxLen]) rfl
        have hbstart4 : Below wr.heap.size wr (wr.alloc (.cells #[] 5)) := (Below.refl _ _).alloc (Nat.le_refl _) _
        go_wp2
        generalize hwx : wr = wx at *
        clear hwx
        generalize wx.alloc (.cells #[] 5) = w5 at hstart4 hbstart4 ⊢
        go_loopw [6, 28] (fun s i wq => ∃ j : Nat, j ≤ 8 ∧ i = .int .i64 j ∧ Own 5 wq wx.heap.size s (fours (Z.take j)) ∧ Below wx.heap.size wx wq)
          (fun _ i _ => 8 - (intOf i).toNat)
        case atStart => exact ⟨0, Nat.zero_le _, rfl, hstart4, hbstart4⟩
        case round =>
          clear hstart4 hbstart4
          obtain ⟨j, hj, rfl, hown, hbelx⟩ := hrel
          by_cases hlt8 : j < 8
          · have hji : (j : Int) < 8 := by omega
            have cx0 : wx.cell? ⟨bv, ov + j, none⟩ = some (.int .i64 (Z.getD j 0 : Int)) := by
              have := HCV.out j hlt8
              rw [it_wi] at this
              exact this
            have hx := hzw.at_ j
            have hft := fours_take (z := Z) (k := j) (by rw [HZL.out]; exact hlt8)
            have hlen : (fours (Z.take j)).length ≤ 32 := by rw [fours_length, List.length_take]; omega
            generalize Z.getD j 0 = x at cx0 hx hft
            have hcx := (hbelx.cell (p := ⟨bv, ov + j, none⟩) hbv).trans cx0
            have HFT := Lib.hid hft
            have hlit : Own 5 (wr.alloc (.cells #[.int .u8 ((x : Int) / 16777216), .int .u8 ((x : Int) / 65536 % 256), .int .u8 ((x : Int) / 256 % 256), .int .u8 ((x : Int) % 256)] 5)) wr.heap.size (.slice (some ⟨wr.heap.size, 0, none⟩) 4 4) (four x) := by
              have := World.ownsRow_lit (base := wr.heap.size) (size := 1) (e := 5) wr #[.int .u8 ((x : Int) / 16777216), .int .u8 ((x : Int) / 65536 % 256), .int .u8 ((x : Int) / 256 % 256), .int .u8 ((x : Int) % 256)] 4 (Nat.le_refl _) (by simp [maxLen]) rfl
              unfold Own
              rw [four_us hx]
              exact this
            have HLIT := Lib.hid hlit.sl
            have hba := (Below.refl wr.heap.size wr).alloc (Nat.le_refl _) (.cells #[.int .u8 ((x : Int) / 16777216), .int .u8 ((x : Int) / 65536 % 256), .int .u8 ((x : Int) / 256 % 256), .int .u8 ((x : Int) % 256)] 5)
            have HUP := Lib.hid (hown.up hba)
            have HBA := Lib.hid (hbelx.alloc hbelx.size (.cells #[.int .u8 ((x : Int) / 16777216), .int .u8 ((x : Int) / 65536 % 256), .int .u8 ((x : Int) / 256 % 256), .int .u8 ((x : Int) % 256)] 5))
            clear hft cx0 hlit hba
            go_wp2_with (at_builtin; refine wpList_appS (W := wx) rfl _ _ 22 rfl 5 i0 Tryd.underlying22 hi hz0 hz1 hz2 _ (fours (Z.take j)) (by rfl) _ (four x) (by rfl) HLIT.out HUP.out HBA.out (by simp [four]; omega) ?_; intro v6 w6 hown6 hb6)
            rw [HFT.out] at hown6
            go_roundw
            case rel => exact ⟨j + 1, by omega, by go_num, hown6, hb6⟩
            case measure => simp [intOf]; omega
          · have hj8 : j = 8 := by omega
            have hji : (j : Int) = 8 := by omega
            rw [hji]
            rw [hj8, List.take_of_length_le (Nat.le_of_eq HZL.out)] at hown
            clear hj hlt8 hj8 hji
            go_wp2
            go_ret
            exact ⟨_, rfl, by rw [← HZ.out]; exact hown.mono hbel.size, hbel.trans (hbelx.mono hbel.size)⟩
end Go.Proofs.YtdoaikanaodefaaDoor

/- Both sides of ShaBlock and of Sha. -/
namespace Go.Proofs.YtdoaikanaodefaaDoor
theorem shaBlockL_len (h : List Int) (b : List UInt8) : (shaBlockL h b).length ≤ 8 := by
  unfold shaBlockL
  split
  · rename_i hc
    rw [wi_length, blockW_length _ (by rw [List.length_map, hc.1.1])]
    exact Nat.le_refl _
  · exact Nat.zero_le _
end Go.Proofs.YtdoaikanaodefaaDoor
