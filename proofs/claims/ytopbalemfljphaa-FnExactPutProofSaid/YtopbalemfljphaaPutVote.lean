/- PutVote, of the program and of its model; putNumbers, l11Num. -/
import Derived.Test.YtopbalemfljphaaVoteOk
import Derived.Deep.RegionHeld3
namespace Go.Proofs.Ytopbalemfljphaa
open Go.ChangeShapes Go.WideShapes Go.ChangeAt Go.RowKit

/-- The numbers ns behind l. -/
def numsL (l : List UInt8) (ns : List Int) : List UInt8 := ns.foldl putVarL l
theorem numsL_take (l : List UInt8) (ns : List Int) (k : Nat) (h : k < ns.length) : numsL l (ns.take (k + 1)) = putVarL (numsL l (ns.take k)) (it ns k) := by
  unfold numsL
  rw [List.take_succ_eq_append_getElem h, List.foldl_append]
  simp [it, List.getD_eq_getElem?_getD, List.getElem?_eq_getElem h]
theorem numsL_len (l : List UInt8) (ns : List Int) : (numsL l ns).length ≤ l.length + 9 * ns.length := by
  induction ns generalizing l with
  | nil => simp [numsL]
  | cons n ns ih =>
    have h1 := ih (putVarL l n)
    have h2 := putVarL_len l n
    have e : numsL l (n :: ns) = numsL (putVarL l n) ns := rfl
    rw [e]
    simp only [List.length_cons]
    omega

theorem l11Num_any (v : Value) (l : List UInt8) (n : Int) (w : World) (h : Sl w w.heap.size v l) (hl : l.length ≤ 4294967296) :
    Calls Try.prog 56 #[v, .int .i64 n] w (Fresh w (putVarL l n)) := by
  go_enter Try.func56, Try.ntmps56
  go_wp2_with fail
  refine (specPutVar_any v l n _ h hl).mono ?_
  rintro e w1 ⟨v1, rfl, hown1, hb1⟩
  go_wp2
  go_ret
  exact ⟨v1, rfl, hown1, hb1⟩

set_option maxHeartbeats 1000000 in
theorem putNumbers_any (v u : Value) (l : List UInt8) (ns : List Int) (w : World) (h : Sl w w.heap.size v l) (h' : SlI w w.heap.size u ns) (hp : 0 < ns.length) (hn : ns.length ≤ 64) (hl : l.length ≤ 2147483648) :
    Calls Try.prog 61 #[v, u] w (Fresh w (numsL l ns)) := by
  obtain ⟨A, c, rfl, h1, h2, h0, h3⟩ := h'
  obtain ⟨b, off, rfl, hbb, hcell⟩ := h3 hp
  unfold maxLen at h2
  clear h0 h3
  have hz := fun k => numsL_len l (ns.take k)
  have HZ := Lib.hid hz
  clear hz
  go_enter Try.func61, Try.ntmps61
  go_wp2
  go_loopw [0, 6, 9, 13] (fun o _ i _ wr => ∃ (k : Nat), k ≤ ns.length ∧ i = .int .i64 k ∧ Below w.heap.size w wr ∧ Sl wr wr.heap.size o (numsL l (ns.take k)) ∧ (0 < k → Own 5 wr w.heap.size o (numsL l (ns.take k))))
    (fun _ _ i _ _ => ns.length - (intOf i).toNat)
  case atStart => exact ⟨0, Nat.zero_le _, rfl, Below.refl _ _, h, fun h => absurd h (by omega)⟩
  case round =>
    obtain ⟨k, hk, rfl, hbel, hsl, hown⟩ := hrel
    by_cases hlt : k < ns.length
    · have hc0 := (hbel.cell (p := ⟨b, off + k, none⟩) hbb).trans (hcell k hlt)
      have hlen : (numsL l (ns.take k)).length ≤ 4294967296 := by have := HZ.out k; rw [List.length_take] at this; omega
      have htk := numsL_take l ns k hlt
      obtain ⟨z, hz⟩ : ∃ z, z = it ns k := ⟨_, rfl⟩
      rw [← hz] at hc0 htk
      have HTK := Lib.hid htk
      have HSL := Lib.hid hsl
      have HLN := Lib.hid hlen
      have HBL := Lib.hid hbel
      clear htk hsl hlen hz hown
      go_wp2_with fail
      refine (implPutVar_any _ _ z _ HSL.out HLN.out).mono ?_
      rintro e w1 ⟨v1, rfl, hown1, hb1⟩
      rw [← HTK.out] at hown1
      have HO := Lib.hid hown1
      have HB := Lib.hid (HBL.out.trans (hb1.mono HBL.out.size))
      have HS := HBL.out.size
      clear hown1 hb1
      go_wp2
      go_roundw
      case rel => exact ⟨k + 1, by omega, by go_num, HB.out, HO.out.sl, fun _ => HO.out.mono HS⟩
      case measure => simp [intOf]; omega
    · obtain rfl : k = ns.length := by omega
      have HO := Lib.hid (hown hp)
      rw [List.take_length] at HO
      clear hown hsl
      go_wp2
      go_ret
      exact ⟨_, rfl, HO.out, hbel⟩

theorem three {p q r s t : Prop} (h : p ∧ q ∧ r ∧ s ∧ t) : p ∧ q ∧ r := ⟨h.1, h.2.1, h.2.2.1⟩
/-- What PutVote writes of a valid vote behind l. -/
def voteL (l : List UInt8) (x y z : Int) (m k : List UInt8) : List UInt8 := putVarL (putVarL (putVarL l x) y ++ m) z ++ k
def putVoteL (a b c d e : Int) (l : List UInt8) (x y z : Int) (m k : List UInt8) : List UInt8 := if voteB a b c d e x y z m k = true then voteL l x y z m k else []
theorem voteL_len (l : List UInt8) (x y z : Int) (m k : List UInt8) : (voteL l x y z m k).length ≤ l.length + m.length + k.length + 27 := by
  unfold voteL
  rw [List.length_append]
  have h1 := putVarL_len l x
  have h2 := putVarL_len (putVarL l x) y
  have h3 := putVarL_len (putVarL (putVarL l x) y ++ m) z
  rw [List.length_append] at h3
  omega
theorem putVoteL_len (a b c d e : Int) (l : List UInt8) (x y z : Int) (m k : List UInt8) : (putVoteL a b c d e l x y z m k).length ≤ l.length + m.length + k.length + 27 := by
  unfold putVoteL
  split
  · exact voteL_len l x y z m k
  · simp
theorem voteB_tag {a b c d e x y z : Int} {m k : List UInt8} (h : voteB a b c d e x y z m k = true) : m.length = 32 ∧ k.length = 32 := by
  unfold voteB at h
  simp only [Bool.and_eq_true] at h
  exact ⟨hashLB_len h.2.2.2.1, hashLB_len h.2.2.2.2.2⟩

end Go.Proofs.Ytopbalemfljphaa
