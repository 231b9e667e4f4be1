/- Commit proofs: what their laws speak of. -/
import Derived.Test.YtopbalemfljphaaHdS
import Derived.Test.YtopbalemfljphaaHeadOk
namespace Go.Proofs.Ytopbalemfljphaa
open Go.ChangeShapes Go.WideShapes Go.ChangeAt Go.RowKit

/-- Are two headers the same? -/
def sameHt (t u : Ht) : Bool := sameHB t.x t.y t.z t.qx t.qy t.l t.k t.ql t.qk t.L u.x u.y u.z u.qx u.qy u.l u.k u.ql u.qk u.L
/-- Are the headers the same? -/
def eqHs : List Ht → List Ht → Bool
  | [], [] => true
  | t :: V, u :: W => sameHt t u && eqHs V W
  | _, _ => false
theorem eqHs_len : ∀ {V W : List Ht}, ¬ V.length = W.length → eqHs V W = false
  | [], [], h => absurd rfl h
  | [], _ :: _, _ => rfl
  | _ :: _, [], _ => rfl
  | t :: V, u :: W, h => by
    have := eqHs_len (V := V) (W := W) (fun e => h (by simp [e]))
    simp [eqHs, this]
theorem eqHs_no : ∀ {V W : List Ht} {i : Nat} {t u : Ht}, V[i]? = some t → W[i]? = some u → sameHt t u = false → eqHs V W = false
  | [], _, i, t, u, h, _, _ => by simp at h
  | _ :: _, [], i, t, u, _, h, _ => by simp at h
  | a :: V, b :: W, 0, t, u, h1, h2, h => by
    simp at h1 h2
    subst h1 h2
    simp [eqHs, h]
  | a :: V, b :: W, i + 1, t, u, h1, h2, h => by
    have := eqHs_no (V := V) (W := W) (i := i) (by simpa using h1) (by simpa using h2) h
    simp [eqHs, this]
theorem eqHs_yes : ∀ {V W : List Ht}, V.length = W.length → (∀ (i : Nat) (t u : Ht), i < V.length → V[i]? = some t → W[i]? = some u → sameHt t u = true) → eqHs V W = true
  | [], [], _, _ => rfl
  | [], _ :: _, h, _ => by simp at h
  | _ :: _, [], h, _ => by simp at h
  | a :: V, b :: W, h, hs => by
    have h0 := hs 0 a b (by simp) rfl rfl
    have := eqHs_yes (V := V) (W := W) (by simpa using h) (fun i t u hi h1 h2 => hs (i + 1) t u (by simpa using hi) (by simpa using h1) (by simpa using h2))
    simp [eqHs, h0, this]
/-- The first k headers are the same. -/
def SameHTo (V W : List Ht) (k : Nat) : Prop := ∀ (i : Nat) (t u : Ht), i < k → V[i]? = some t → W[i]? = some u → sameHt t u = true
theorem SameHTo.zero {V W : List Ht} : SameHTo V W 0 := fun _ _ _ h => absurd h (Nat.not_lt_zero _)
theorem SameHTo.succ {V W : List Ht} {k : Nat} {t u : Ht} (h : SameHTo V W k) (h1 : V[k]? = some t) (h2 : W[k]? = some u) (hs : sameHt t u = true) : SameHTo V W (k + 1) := fun i p q hi hp hq => by
  by_cases hik : i < k
  · exact h i p q hik hp hq
  · obtain rfl : i = k := by omega
    rw [h1] at hp
    rw [h2] at hq
    cases hp
    cases hq
    exact hs
/-- Are the commit proofs the same? -/
def samePB (M : List Ht) (qx qy : Int) (ql qk : List UInt8) (L : List (List UInt8)) (M' : List Ht) (qx' qy' : Int) (ql' qk' : List UInt8) (L' : List (List UInt8)) : Bool := eqHs M M' && sameQB qx qy ql qk L qx' qy' ql' qk' L'
/-- Is the header in order? -/
def headTB (a b c d e : Int) (t : Ht) : Bool := headB a b c d e t.x t.y t.z t.qx t.qy t.l t.k t.ql t.qk t.L
/-- Are all headers in order? -/
def headsB (a b c d e : Int) : List Ht → Bool
  | [] => true
  | t :: M => headTB a b c d e t && headsB a b c d e M
theorem headsB_no {a b c d e : Int} : ∀ {M : List Ht} {i : Nat} {t : Ht}, M[i]? = some t → headTB a b c d e t = false → headsB a b c d e M = false
  | [], i, t, h, _ => by simp at h
  | x :: M, 0, t, h, hf => by
    simp at h
    subst h
    simp [headsB, hf]
  | x :: M, i + 1, t, h, hf => by
    have := headsB_no (M := M) (i := i) (by simpa using h) hf
    simp [headsB, this]
/-- The first k headers are in order. -/
def HeadsTo (a b c d e : Int) (M : List Ht) (k : Nat) : Prop := ∀ (i : Nat) (t : Ht), i < k → M[i]? = some t → headTB a b c d e t = true
theorem HeadsTo.zero {a b c d e : Int} {M : List Ht} : HeadsTo a b c d e M 0 := fun _ _ h => absurd h (Nat.not_lt_zero _)
theorem HeadsTo.succ {a b c d e : Int} {M : List Ht} {k : Nat} {t : Ht} (h : HeadsTo a b c d e M k) (h1 : M[k]? = some t) (hs : headTB a b c d e t = true) : HeadsTo a b c d e M (k + 1) := fun i p hi hp => by
  by_cases hik : i < k
  · exact h i p hik hp
  · obtain rfl : i = k := by omega
    rw [h1] at hp
    cases hp
    exact hs
theorem headsB_yes {a b c d e : Int} : ∀ {M : List Ht}, HeadsTo a b c d e M M.length → headsB a b c d e M = true
  | [], _ => rfl
  | t :: M, h => by
    have h0 := h 0 t (by simp) rfl
    have := headsB_yes (M := M) (fun i u hi hu => h (i + 1) u (by simpa using hi) (by simpa using hu))
    simp [headsB, h0, this]
/-- Does the certificate speak of the last header? -/
def lastB (M : List Ht) (qx qy : Int) : Bool := match M[M.length - 1]? with
  | some t => (qx == t.x) && (qy == t.y)
  | none => false
theorem lastB_at {M : List Ht} {t : Ht} {qx qy : Int} (h : M[M.length - 1]? = some t) : lastB M qx qy = ((qx == t.x) && (qy == t.y)) := by
  unfold lastB
  rw [h]
/-- Is the commit proof in order? -/
def proofB (a b c d e : Int) (M : List Ht) (qx qy : Int) (ql qk : List UInt8) (L : List (List UInt8)) : Bool := limB a b c d e && (decide (3 ≤ (M.length : Int) ∧ (M.length : Int) ≤ e) && (headsB a b c d e M && (qcB a b c d e qx qy ql qk L && lastB M qx qy)))
end Go.Proofs.Ytopbalemfljphaa
