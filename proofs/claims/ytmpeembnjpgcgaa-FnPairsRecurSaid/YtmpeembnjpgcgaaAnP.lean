/- What the functions of chapter 4 on pairs answer, as plain functions, and how they hang together. No program in sight. -/
import Derived.Test.YtmpeembnjpgcgaaSdN
namespace Go.Proofs.Ytmpeembnjpgcgaa

def prB (k : Int) : Bool := decide (0 ≤ k ∧ k ≤ 12)
def txV (k : Int) : Int := bif prB k then tx k.toNat else 0
def tyV (k : Int) : Int := bif prB k then ty k.toNat else 0
def tsV (k : Int) : Int := bif prB k then tx k.toNat * ty k.toNat * tx k.toNat * ty k.toNat else 0
def tmV (k : Int) : Int := bif prB k then min (tx k.toNat * tx k.toNat) (2 * ty k.toNat * ty k.toNat) else 0
def trV (k : Int) : Int := bif prB k then tx k.toNat * ty k.toNat else 0
def tpV (k : Int) : Int := bif prB k then (tx (2 * k.toNat + 1) - 1) / 2 else 0
def tqV (k : Int) : Int := bif prB k then (ty (2 * k.toNat + 1) - 1) / 2 else 0
def tzV (k : Int) : Int := bif prB k then ty (2 * k.toNat + 1) else 0
def hxB (p : Int) : Bool := decide (1 ≤ p ∧ p ≤ 50000)
def hxV (p : Int) : Int := bif hxB p then 2 * p - 1 else 0
def odB (k : Int) : Bool := decide (0 ≤ k ∧ k ≤ 100000)
def odV (k : Int) : Int := bif odB k then (2 * k + 1) * (2 * k + 1) else 0
def odW (k : Int) : Int := bif odB k then k else 0

/-- What the pairs up to the twelfth keep, each number for itself. -/
def PrsN (K : Nat) : Prop :=
  let x := tx K; let y := ty K; let p := (tx (2 * K + 1) - 1) / 2; let q := (ty (2 * K + 1) - 1) / 2; let z := ty (2 * K + 1); let m := min (tx K * tx K) (2 * ty K * ty K)
  (x * x - 2 * y * y = if K % 2 = 1 then -1 else 1) ∧ m * (m + 1) = 2 * (x * y * x * y) ∧ p * (p + 1) = 2 * q * (q + 1) ∧ p * p + (p + 1) * (p + 1) = z * z ∧
  (0 ≤ x ∧ x ≤ 20000) ∧ (0 ≤ y ∧ y ≤ 20000) ∧ (0 ≤ m ∧ m ≤ 400000000) ∧ (0 ≤ p ∧ p ≤ 1000000000) ∧ (0 ≤ q ∧ q ≤ 1000000000) ∧ (0 ≤ z ∧ z ≤ 1400000000)
instance (K : Nat) : Decidable (PrsN K) := by unfold PrsN; infer_instance
theorem prs_nat (K : Nat) (h : K ≤ 12) : PrsN K := by
  have all : ∀ K : Fin 13, PrsN K.val := by decide +kernel
  exact all ⟨K, by omega⟩
def PrtN (K : Nat) : Prop := tx K * ty K * tx K * ty K = 34 * (tx (K - 1) * ty (K - 1) * tx (K - 1) * ty (K - 1)) - tx (K - 2) * ty (K - 2) * tx (K - 2) * ty (K - 2) + 2
instance (K : Nat) : Decidable (PrtN K) := by unfold PrtN; infer_instance
theorem prt_nat (K : Nat) (h : K ≤ 12) (h2 : 2 ≤ K) : PrtN K := by
  have all : ∀ K : Fin 13, 2 ≤ K.val → PrtN K.val := by decide +kernel
  exact all ⟨K, by omega⟩ h2

theorem mul_in {a b A B : Int} (a0 : 0 ≤ a) (a1 : a ≤ A) (b0 : 0 ≤ b) (b1 : b ≤ B) : 0 ≤ a * b ∧ a * b ≤ A * B :=
  ⟨Int.mul_nonneg a0 b0, Int.mul_le_mul a1 b1 b0 (by omega)⟩
structure Prs (k : Int) : Prop where
  b : prB k = true
  k0 : 0 ≤ k
  k1 : k ≤ 12
  par : (k % 2 = 1 ∧ txV k * txV k - 2 * tyV k * tyV k = -1) ∨ (k % 2 = 0 ∧ txV k * txV k - 2 * tyV k * tyV k = 1)
  sq : txV k * tyV k * txV k * tyV k = tsV k
  rr : trV k * trV k = tsV k
  mm : tmV k * (tmV k + 1) / 2 = tsV k
  pq : tpV k * (tpV k + 1) = 2 * tqV k * (tqV k + 1)
  zz : tpV k * tpV k + (tpV k + 1) * (tpV k + 1) = tzV k * tzV k
  x : 0 ≤ txV k ∧ txV k ≤ 20000
  y : 0 ≤ tyV k ∧ tyV k ≤ 20000
  m : 0 ≤ tmV k ∧ tmV k ≤ 400000000
  p : 0 ≤ tpV k ∧ tpV k ≤ 1000000000
  q : 0 ≤ tqV k ∧ tqV k ≤ 1000000000
  z : 0 ≤ tzV k ∧ tzV k ≤ 1400000000
  t : 0 ≤ tsV k ∧ tsV k ≤ 160000000000000000
  xx : 0 ≤ txV k * txV k ∧ txV k * txV k ≤ 400000000
  yy : 0 ≤ 2 * tyV k * tyV k ∧ 2 * tyV k * tyV k ≤ 800000000
  xy : 0 ≤ txV k * tyV k ∧ txV k * tyV k ≤ 400000000
  xyx : 0 ≤ txV k * tyV k * txV k ∧ txV k * tyV k * txV k ≤ 8000000000000
  m2 : 0 ≤ tmV k * (tmV k + 1) ∧ tmV k * (tmV k + 1) ≤ 400000000000000000
  p2 : 0 ≤ tpV k * (tpV k + 1) ∧ tpV k * (tpV k + 1) ≤ 2000000000000000000
  pp : 0 ≤ tpV k * tpV k ∧ tpV k * tpV k ≤ 1000000000000000000
  pq2 : 0 ≤ (tpV k + 1) * (tpV k + 1) ∧ (tpV k + 1) * (tpV k + 1) ≤ 2000000000000000000
  z2 : 0 ≤ tzV k * tzV k ∧ tzV k * tzV k ≤ 2000000000000000000
theorem pr_iff {k : Int} : prB k = true ↔ 0 ≤ k ∧ k ≤ 12 := by simp [prB]
theorem prs_of {k : Int} (h : prB k = true) : Prs k := by
  obtain ⟨h0, h1⟩ := pr_iff.1 h
  obtain ⟨K, rfl⟩ := Int.eq_ofNat_of_zero_le h0
  have hn := prs_nat K (by omega)
  have ex : txV (K : Int) = tx K := by simp [txV, h]
  have ey : tyV (K : Int) = ty K := by simp [tyV, h]
  have es : tsV (K : Int) = tx K * ty K * tx K * ty K := by simp [tsV, h]
  have em : tmV (K : Int) = min (tx K * tx K) (2 * ty K * ty K) := by simp [tmV, h]
  have er : trV (K : Int) = tx K * ty K := by simp [trV, h]
  have ep : tpV (K : Int) = (tx (2 * K + 1) - 1) / 2 := by simp [tpV, h]
  have eq : tqV (K : Int) = (ty (2 * K + 1) - 1) / 2 := by simp [tqV, h]
  have ez : tzV (K : Int) = ty (2 * K + 1) := by simp [tzV, h]
  simp only [PrsN] at hn
  rw [← em, ← ep, ← eq, ← ez, ← ex, ← ey] at hn
  obtain ⟨n1, n2, n3, n4, n5, n6, n7, n8, n9, n10⟩ := hn
  have sq : txV (K : Int) * tyV K * txV K * tyV K = tsV K := by rw [es, ex, ey]
  have xx := mul_in n5.1 n5.2 n5.1 n5.2
  have y2 : 0 ≤ 2 * tyV (K : Int) ∧ 2 * tyV (K : Int) ≤ 40000 := by omega
  have yy := mul_in y2.1 y2.2 n6.1 n6.2
  have xy := mul_in n5.1 n5.2 n6.1 n6.2
  have xyx := mul_in xy.1 xy.2 n5.1 n5.2
  have t := mul_in xyx.1 xyx.2 n6.1 n6.2
  rw [sq] at t
  have m1 : 0 ≤ tmV (K : Int) + 1 ∧ tmV (K : Int) + 1 ≤ 400000001 := by omega
  have p1 : 0 ≤ tpV (K : Int) + 1 ∧ tpV (K : Int) + 1 ≤ 1000000001 := by omega
  have mm := mul_in n7.1 n7.2 m1.1 m1.2
  have p2 := mul_in n8.1 n8.2 p1.1 p1.2
  have pp := mul_in n8.1 n8.2 n8.1 n8.2
  have qq := mul_in p1.1 p1.2 p1.1 p1.2
  have zz := mul_in n10.1 n10.2 n10.1 n10.2
  refine ⟨h, h0, h1, ?_, sq, ?_, ?_, n3, n4, n5, n6, n7, n8, n9, n10, by omega, by omega, by omega, by omega, by omega, by omega, by omega, by omega, by omega, by omega⟩
  · by_cases hp : K % 2 = 1
    · rw [if_pos hp] at n1; exact Or.inl ⟨by omega, n1⟩
    · rw [if_neg hp] at n1; exact Or.inr ⟨by omega, n1⟩
  · rw [er, es]; grind
  · rw [n2, sq]; omega
structure Prt (k : Int) : Prop where
  b : prB (k - 1) = true
  x : txV (k - 1) + 2 * tyV (k - 1) = txV k
  y : txV (k - 1) + tyV (k - 1) = tyV k
  u : 0 ≤ txV (k - 1) ∧ txV (k - 1) ≤ 20000
  v : 0 ≤ tyV (k - 1) ∧ tyV (k - 1) ≤ 20000
theorem prt_of {k : Int} (h : prB k = true) (hk : 0 < k) : Prt k := by
  obtain ⟨h0, h1⟩ := pr_iff.1 h
  have b : prB (k - 1) = true := by simp [prB]; omega
  obtain ⟨K, rfl⟩ : ∃ K : Nat, k = ((K + 1 : Nat) : Int) := ⟨(k - 1).toNat, by omega⟩
  have e : ((K + 1 : Nat) : Int) - 1 = (K : Int) := by omega
  have q := prs_of b
  rw [e] at b q
  have a1 : txV ((K + 1 : Nat) : Int) = tx (K + 1) := by simp only [txV, h, cond_true, Int.toNat_natCast]
  have a2 : tyV ((K + 1 : Nat) : Int) = ty (K + 1) := by simp only [tyV, h, cond_true, Int.toNat_natCast]
  have a3 : txV (K : Int) = tx K := by simp [txV, b]
  have a4 : tyV (K : Int) = ty K := by simp [tyV, b]
  exact ⟨by rw [e]; exact b, by rw [e, a1, a3, a4, tx_succ], by rw [e, a2, a3, a4, ty_succ], by rw [e]; exact q.x, by rw [e]; exact q.y⟩
structure Pru (k : Int) : Prop where
  b : prB (k - 2) = true
  s : 34 * tsV (k - 1) - tsV (k - 2) + 2 = tsV k
  u : 0 ≤ tsV (k - 1) ∧ tsV (k - 1) ≤ 160000000000000000
  v : 0 ≤ tsV (k - 2) ∧ tsV (k - 2) ≤ 160000000000000000
theorem pru_of {k : Int} (h : prB k = true) (hk : 2 ≤ k) : Pru k := by
  obtain ⟨h0, h1⟩ := pr_iff.1 h
  have b1 : prB (k - 1) = true := by simp [prB]; omega
  have b2 : prB (k - 2) = true := by simp [prB]; omega
  have q1 := (prs_of b1).t
  have q2 := (prs_of b2).t
  obtain ⟨K, rfl⟩ := Int.eq_ofNat_of_zero_le h0
  have hn := prt_nat K (by omega) (by omega)
  have e1 : ((K : Int) - 1).toNat = K - 1 := by omega
  have e2 : ((K : Int) - 2).toNat = K - 2 := by omega
  refine ⟨b2, ?_, q1, q2⟩
  simp only [tsV, h, b1, b2, cond_true, Int.toNat_natCast, e1, e2]
  simp only [PrtN] at hn
  omega
structure Hxs (p : Int) : Prop where
  b : hxB p = true
  h0 : 1 ≤ p
  h1 : p ≤ 50000
  v : hxV p = 2 * p - 1
end Go.Proofs.Ytmpeembnjpgcgaa
