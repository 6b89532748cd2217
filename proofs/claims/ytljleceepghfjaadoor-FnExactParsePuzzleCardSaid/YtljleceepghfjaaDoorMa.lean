/- The texts XBase XNum XDtM XDoA XNuB XRuM XTfA XSpA XImA XRuN XOwn XOwS XRuA joined. -/
import Derived.Test.YtljleceepghfjaaDoorRows
import Derived.WalkKit
import Derived.ProofKit
import Derived.OpenShut
import Derived.Lib.Hide
import Derived.Test.YtljleceepghfjaaDoorChecked
import Derived.WalkSpells
import Derived.Lib.ItoaMem
import Derived.Deep.RegionWith
import Derived.Laws.BytesArg
import Derived.Deep.QuietTactic
import Derived.BigQuiet
import Derived.Deep.RegionHeld3
/- What every law's last step shares: the call returns true, nothing that was there has turned, so the arguments read as before. -/
namespace Go.Proofs.YtljleceepghfjaaDoor
open Go.ChangeShapes Go.WideShapes Go.ChangeAt Go.RowKit

theorem Tryd.own : ownKnob Tryd.prog.godebug = none := by kernel_rfl
theorem Tryd.laidOut : laidOutB Tryd.prog = true := by kernel_rfl

section
variable {H : Type} {enc : TypeId × Value → H} {P : Program}
theorem all_stay (hl : laidOutB P = true) {W W' : World} (hb : Below W.heap.size W W') :
    ∀ {ts : List TypeId} {vs : List Value} {ds : List (DataW H)} {ps : List MemPlace}, (∀ t ∈ ts, P.readableRec t = true ∧ t < P.types.size) →
      DataW.TrodAll enc P W 0 (fun _ => true) true ts vs ds ps → (∀ x ∈ ps, x.block < W.heap.size) →
      DataW.TrodAll enc P W' 0 (fun b => decide (b < W.heap.size)) true ts vs ds ps
  | [], _, _, _, _, h, _ => by
    obtain ⟨rfl, rfl, rfl⟩ := trodAll_nil h
    exact trodAll_mk0
  | t :: ts, _, _, _, ht, h, hlt => by
    obtain ⟨v, vs1, d, ds1, a, b, rfl, rfl, rfl, h1, h2⟩ := trodAll_cons h
    refine trodAll_cons_mk (Below.trod hl (ht t (by simp)).1 (ht t (by simp)).2 h1 hb fun x hx => hlt x (by simp [hx])) ?_
    exact all_stay hl hb (fun t' h' => ht t' (by simp [h'])) h2 fun x hx => hlt x (by simp [hx])

theorem law_post {f : Func} {s : ChangeSpec} {W W' : World} {args : Array Value} {ds gs : List (DataW H)} {before : List MemPlace} {tb : TypeId}
    (hl : laidOutB P = true) (hr : f.resultTypes = #[tb]) (htb : P.underlying tb = some .bool) (hp : ∀ t ∈ f.params.toList, P.readableRec t = true ∧ t < P.types.size)
    (hW : DataW.Whole enc P f.params.toList s.vars false W args.toList ds gs before)
    (hA : DataW.TrodAll enc P W 0 (fun _ => true) true f.params.toList args.toList ds before)
    (hs1 : (s.fn H (ds ++ gs)).results = [.lit (.bool true)]) (hs2 : (s.fn H (ds ++ gs)).args = ds)
    (hv : DataW.TrodVars enc P W' (fun b => decide (b < W.heap.size)) s.vars (s.fn H (ds ++ gs)).vars [])
    (hb : Below W.heap.size W W') : s.post enc P f false true false false W args (.bool true) W' := by
  refine ⟨ds, gs, before, [], before, [], hW, ?_, ?_, hv, ?_, fun h => by cases h⟩
  · rw [hs1, hr]
    exact trodAll_mk1 (shut_bool htb true)
  · rw [hs2]
    exact all_stay hl hb hp hA fun x hx => hW.lt x hx
  · exact World.keptBut_mono (fun p hp' => ⟨hp', by simp [hp']⟩) (hb.frame (· ∈ before))
end
end Go.Proofs.YtljleceepghfjaaDoor

/- Plain arithmetic of polygonal numbers: no program in sight. -/
namespace Go.Proofs.YtljleceepghfjaaDoor

theorem ret_int {k : IntKind} {a b : Int} (h : a = b) : Ending.returned (.int k a) = .returned (.int k b) := by rw [h]

open Go.RowKit in
/-- What a contract that ends in 'Below' says of old cells and marks, as two rules. -/
theorem bcell {W w1 : World} (hb : Below W.heap.size W w1) : (∀ b o, b < W.heap.size → w1.cell? ⟨b, o, none⟩ = W.cell? ⟨b, o, none⟩) ∧ (∀ b o, b < W.heap.size → w1.frozen? ⟨b, o, none⟩ = W.frozen? ⟨b, o, none⟩) :=
  ⟨fun b o h => hb.cell (p := ⟨b, o, none⟩) h, fun b o h => hb.frozen (p := ⟨b, o, none⟩) h⟩

/-- The polygonal number of a place that may be less than 0. -/
def num (s k : Int) : Int := ((s - 2) * k * k - (s - 4) * k) / 2

theorem even_pr (k : Int) : k * (k - 1) % 2 = 0 := by
  rcases Int.emod_two_eq k with h | h <;> simp [Int.mul_emod, Int.sub_emod, h]

theorem num_twice (s k : Int) : 2 * num s k = (s - 2) * k * k - (s - 4) * k := by
  have h : (s - 2) * k * k - (s - 4) * k = 2 * ((s - 2) * (k * (k - 1) / 2) + k) := by
    have h2 := even_pr k
    have h3 : k * (k - 1) = 2 * (k * (k - 1) / 2) := by omega
    generalize k * (k - 1) / 2 = q at h3
    grind
  unfold num
  rw [h]
  omega

theorem num_zero (s : Int) : num s 0 = 0 := by simp [num]
theorem num_one (s : Int) : num s 1 = 1 := by
  have := num_twice s 1
  grind
theorem num_succ (s k : Int) : num s (k + 1) = num s k + (s - 2) * k + 1 := by
  have h1 := num_twice s k
  have h2 := num_twice s (k + 1)
  grind

theorem sq_nn (k : Int) : 0 ≤ k * k := by
  rcases Int.le_total 0 k with h | h
  · exact Int.mul_nonneg h h
  · have := Int.mul_nonneg (a := -k) (b := -k) (by omega) (by omega)
    grind

/-- twice the number is (s - 3) k (k - 1) and k (k + 1) -/
theorem num_split (s k : Int) : 2 * num s k = (s - 3) * (k * (k - 1)) + k * (k + 1) := by
  have h1 := num_twice s k
  grind

theorem pr_nn (k : Int) : 0 ≤ k * (k - 1) := by
  rcases Int.lt_or_le 0 k with h | h
  · exact Int.mul_nonneg (by omega) (by omega)
  · have := Int.mul_nonneg (a := -k) (b := 1 - k) (by omega) (by omega)
    grind
theorem pr_nn' (k : Int) : 0 ≤ k * (k + 1) := by
  have := pr_nn (k + 1)
  grind

theorem num_nn (s k : Int) (hs : 3 ≤ s) : 0 ≤ num s k := by
  have h1 := num_split s k
  have h2 := Int.mul_nonneg (a := s - 3) (b := k * (k - 1)) (by omega) (pr_nn k)
  have h3 := pr_nn' k
  omega

theorem num_lt_succ (s k : Int) (hs : 3 ≤ s) (hk : 0 ≤ k) : num s k < num s (k + 1) := by
  have h1 := num_succ s k
  have h2 := Int.mul_nonneg (a := s - 2) (b := k) (by omega) hk
  omega

theorem num_lt (s : Int) (hs : 3 ≤ s) (a : Int) (ha : 0 ≤ a) (d : Nat) : num s a < num s (a + d + 1) := by
  induction d with
  | zero => simpa using num_lt_succ s a hs ha
  | succ d ih =>
    have h := num_lt_succ s (a + d + 1) hs (by omega)
    have e : a + ((d + 1 : Nat) : Int) + 1 = a + d + 1 + 1 := by omega
    rw [e]
    omega

theorem num_mono_lt (s : Int) (hs : 3 ≤ s) {a b : Int} (ha : 0 ≤ a) (h : a < b) : num s a < num s b := by
  have := num_lt s hs a ha (b - a - 1).toNat
  have e : a + ((b - a - 1).toNat : Int) + 1 = b := by omega
  rwa [e] at this
theorem num_mono_le (s : Int) (hs : 3 ≤ s) {a b : Int} (ha : 0 ≤ a) (h : a ≤ b) : num s a ≤ num s b := by
  rcases Int.lt_or_eq_of_le h with h | h
  · exact Int.le_of_lt (num_mono_lt s hs ha h)
  · rw [h]; exact Int.le_refl _

theorem num_ge (s k : Int) (hs : 3 ≤ s) : k * (k + 1) ≤ 2 * num s k := by
  have h1 := num_split s k
  have h2 := Int.mul_nonneg (a := s - 3) (b := k * (k - 1)) (by omega) (pr_nn k)
  omega

theorem sq_le (k : Int) (a : Int) (h1 : -a ≤ k) (h2 : k ≤ a) : k * k ≤ a * a := by
  have h3 := Int.mul_nonneg (a := a - k) (b := a + k) (by omega) (by omega)
  grind

/-- What a walk over ((s - 2) k k - (s - 4) k) / 2 asks. -/
structure NumBds (s k : Int) : Prop where
  a0 : -66000000 ≤ (s - 2) * k
  a1 : (s - 2) * k ≤ 66000000
  b0 : 0 ≤ (s - 2) * k * k
  b1 : (s - 2) * k * k ≤ 198000000000000
  c0 : -80000000 ≤ (s - 4) * k
  c1 : (s - 4) * k ≤ 80000000
  d0 : 0 ≤ (s - 2) * k * k - (s - 4) * k

theorem num_bds (s k : Int) (h1 : 3 ≤ s) (h2 : s ≤ 24) (h3 : -3000000 ≤ k) (h4 : k ≤ 3000000) : NumBds s k := by
  have e1 := Int.mul_nonneg (a := s - 2) (b := 3000000 - k) (by omega) (by omega)
  have e2 := Int.mul_nonneg (a := s - 2) (b := 3000000 + k) (by omega) (by omega)
  have e3 := sq_nn k
  have e4 := sq_le k 3000000 h3 h4
  have e5 := Int.mul_nonneg (a := s - 2) (b := k * k) (by omega) e3
  have e6 := Int.mul_nonneg (a := s - 2) (b := 9000000000000 - k * k) (by omega) (by omega)
  have e7 := num_twice s k
  have e8 := num_nn s k h1
  have f1 : (s - 2) * (3000000 - k) = 3000000 * (s - 2) - (s - 2) * k := by grind
  have f2 : (s - 2) * (3000000 + k) = 3000000 * (s - 2) + (s - 2) * k := by grind
  have f5 : (s - 2) * (k * k) = (s - 2) * k * k := by grind
  have f6 : (s - 2) * (9000000000000 - k * k) = 9000000000000 * (s - 2) - (s - 2) * k * k := by grind
  have f8 : (s - 4) * k = (s - 2) * k - 2 * k := by grind
  constructor <;> omega

/-! ### the place of a number -/
def IsPl (s n k : Int) : Prop := 0 ≤ k ∧ num s k ≤ n ∧ n < num s (k + 1)

theorem pl_ex (s : Int) (hs : 3 ≤ s) (n : Nat) : ∃ k, IsPl s n k := by
  induction n with
  | zero => exact ⟨0, by omega, by simp [num_zero], by have := num_one s; simp; omega⟩
  | succ n ih =>
    obtain ⟨k, h0, h1, h2⟩ := ih
    by_cases h : num s (k + 1) ≤ ((n + 1 : Nat) : Int)
    · exact ⟨k + 1, by omega, h, by have := num_lt_succ s (k + 1) hs (by omega); omega⟩
    · exact ⟨k, h0, by omega, by omega⟩

/-- The greatest place whose number is no greater. -/
noncomputable def pl (s n : Int) : Int := Classical.epsilon (IsPl s n)

theorem pl_is (s n : Int) (hs : 3 ≤ s) (hn : 0 ≤ n) : IsPl s n (pl s n) := by
  obtain ⟨m, rfl⟩ := Int.eq_ofNat_of_zero_le hn
  exact Classical.epsilon_spec (pl_ex s hs m)

theorem pl_nn (s n : Int) (hs : 3 ≤ s) (hn : 0 ≤ n) : 0 ≤ pl s n := (pl_is s n hs hn).1
/-- A place fits just if it is no greater. -/
theorem fits_iff (s n k : Int) (hs : 3 ≤ s) (hn : 0 ≤ n) (hk : 0 ≤ k) : num s k ≤ n ↔ k ≤ pl s n := by
  obtain ⟨h0, h1, h2⟩ := pl_is s n hs hn
  constructor
  · intro h
    rcases Int.lt_or_le (pl s n) k with hlt | hle
    · have := num_mono_le s hs (a := pl s n + 1) (b := k) (by omega) (by omega)
      omega
    · exact hle
  · intro h
    have := num_mono_le s hs hk h
    omega
theorem pl_le (s n : Int) (hs : 3 ≤ s) (hn : 0 ≤ n) (h : n ≤ 1000000000000) : pl s n ≤ 1414214 := by
  obtain ⟨h0, h1, h2⟩ := pl_is s n hs hn
  rcases Int.lt_or_le 1414214 (pl s n) with hlt | hle
  · have h3 := num_ge s (pl s n) hs
    have h4 := Int.mul_nonneg (a := pl s n - 1414214) (b := pl s n + 1414214) (by omega) (by omega)
    have h5 : pl s n * (pl s n + 1) = (pl s n - 1414214) * (pl s n + 1414214) + 1414214 * 1414214 + pl s n := by grind
    omega
  · exact hle

end Go.Proofs.YtljleceepghfjaaDoor

/- Plain facts of chapter 7: texts as lists of bytes, parts between separators, texts joined. No program in sight. -/
namespace Go.Proofs.YtljleceepghfjaaDoor

/-- A text of bytes. -/
def bt (l : List UInt8) : ByteArray := ⟨l.toArray⟩
theorem bt_size (l : List UInt8) : (bt l).size = l.length := by simp [bt, ByteArray.size]
theorem bt_of (s : ByteArray) : s = bt s.data.toList := by simp [bt]
theorem bt_list (l : List UInt8) : (bt l).data.toList = l := by simp [bt]
theorem bt_app (a b : List UInt8) : bt a ++ bt b = bt (a ++ b) := by
  apply ByteArray.ext
  simp [bt]
theorem bt_get (l : List UInt8) (k : Nat) (h : k < (bt l).size) : (bt l)[k] = l[k]'(by rw [bt_size] at h; exact h) := by
  simp [bt, ByteArray.getElem_eq_getElem_data]
theorem bt_cut (l : List UInt8) (i j : Nat) : (bt l).extract i j = bt ((l.take j).drop i) := by
  apply ByteArray.ext
  simp [bt, List.extract_toArray, List.extract_eq_take_drop]
  rw [List.drop_take]
theorem bt_inj {a b : List UInt8} (h : bt a = bt b) : a = b := by
  have := congrArg (fun s => s.data.toList) h
  simpa [bt] using this
theorem bt_eq_iff (a b : List UInt8) : bt a = bt b ↔ a = b := ⟨bt_inj, fun h => by rw [h]⟩

/-- The parts between separators that have ended among the first k bytes, and where the next one begins. -/
def upP (l : List UInt8) (b : UInt8) : Nat → List (List UInt8) × Nat
  | 0 => ([], 0)
  | k + 1 => if l[k]? = some b then ((upP l b k).1 ++ [(l.take k).drop (upP l b k).2], k + 1) else upP l b k
def parts (l : List UInt8) (b : UInt8) : List (List UInt8) := (upP l b l.length).1 ++ [l.drop (upP l b l.length).2]
theorem upP_le (l : List UInt8) (b : UInt8) (k : Nat) : (upP l b k).2 ≤ k := by
  induction k with
  | zero => simp [upP]
  | succ k ih =>
    rw [upP]
    split
    · simp
    · omega
theorem upP_len (l : List UInt8) (b : UInt8) (k : Nat) : (upP l b k).1.length ≤ k := by
  induction k with
  | zero => simp [upP]
  | succ k ih =>
    rw [upP]
    split
    · simp; omega
    · omega
theorem parts_len (l : List UInt8) (b : UInt8) : 1 ≤ (parts l b).length ∧ (parts l b).length ≤ l.length + 1 := by
  have := upP_len l b l.length
  simp [parts]
  exact this
/-- Texts with a separator between them. -/
def joinP (b : UInt8) : List (List UInt8) → List UInt8
  | [] => []
  | r :: rs => rs.foldl (fun acc x => acc ++ (b :: x)) r
theorem joinP_snoc (b : UInt8) (rs : List (List UInt8)) (x : List UInt8) (h : rs ≠ []) : joinP b (rs ++ [x]) = joinP b rs ++ (b :: x) := by
  cases rs with
  | nil => exact absurd rfl h
  | cons r rs => simp [joinP]
end Go.Proofs.YtljleceepghfjaaDoor

/- Contracts of the texts of chapter 1. -/
namespace Go.Proofs.YtljleceepghfjaaDoor
open Go.RowKit

/-- string([]byte{x}), the slice just made, however many worlds lie between -/
theorem conv_one (W : World) (b : Nat) (x : Int) (cap : Nat) (hc : W.cell? ⟨b, 0, none⟩ = some (.int .u8 x)) :
    (convert 64 9 (.slice (some ⟨b, 0, none⟩) 1 cap)).run Tryd.prog W = .ok (.string ⟨#[UInt8.ofNat x.toNat]⟩) W := by
  have h := run_convert_bytes_arg (P := Tryd.prog) W 64 5 Tryd.underlying64 Tryd.underlying5 b 0 1 cap [x] rfl
    (fun i hi => by
      have : i = 0 := by omega
      subst this
      simpa using hc) 9 Tryd.underlying9
  rw [h]
  rfl

theorem nDigits_le : ∀ (k u : Nat), u < 10 ^ k → Lib.nDigits u ≤ k + 1
  | 0, u, h => by rw [Lib.nDigits_small (by simp at h; omega)]; omega
  | k + 1, u, h => by
    by_cases hu : u < 10
    · rw [Lib.nDigits_small hu]; omega
    · rw [Lib.nDigits_big hu]
      have := nDigits_le k (u / 10) (by rw [Nat.pow_succ] at h; omega)
      omega
theorem dec_len (u : Nat) (h : u ≤ 1000000000) : (Lib.decDigits u).length ≤ 11 := by
  rw [Lib.decDigits_length]
  exact nDigits_le 10 u (by omega)

theorem ba_app (l : List UInt8) (x : UInt8) : (⟨l.toArray⟩ : ByteArray) ++ ⟨#[x]⟩ = ⟨(l ++ [x]).toArray⟩ := by
  apply ByteArray.ext
  simp
end Go.Proofs.YtljleceepghfjaaDoor

/- Plain arithmetic, 2: centred numbers, numbers of places below 0, roots. -/
namespace Go.Proofs.YtljleceepghfjaaDoor

/-- The centred number of a place. -/
def cen (s k : Int) : Int := s * k * (k - 1) / 2 + 1

theorem cen_twice (s k : Int) : 2 * cen s k = s * (k * (k - 1)) + 2 := by
  have h2 := even_pr k
  have h3 : k * (k - 1) = 2 * (k * (k - 1) / 2) := by omega
  have h4 : s * k * (k - 1) = 2 * (s * (k * (k - 1) / 2)) := by
    generalize k * (k - 1) / 2 = q at h3
    grind
  have h5 : s * (k * (k - 1)) = s * k * (k - 1) := by grind
  unfold cen
  omega
theorem cen_succ (s k : Int) : cen s (k + 1) = cen s k + s * k := by
  have h1 := cen_twice s k
  have h2 := cen_twice s (k + 1)
  grind
theorem cen_one (s : Int) : cen s 1 = 1 := by simp [cen]
theorem cen_lt (s : Int) (hs : 3 ≤ s) (a : Int) (ha : 1 ≤ a) (d : Nat) : cen s a < cen s (a + d + 1) := by
  induction d with
  | zero =>
    have h1 := cen_succ s a
    have h2 := Int.mul_pos (a := s) (b := a) (by omega) (by omega)
    simp
    omega
  | succ d ih =>
    have h1 := cen_succ s (a + d + 1)
    have h2 := Int.mul_pos (a := s) (b := a + d + 1) (by omega) (by omega)
    have e : a + ((d + 1 : Nat) : Int) + 1 = a + d + 1 + 1 := by omega
    rw [e]
    omega
theorem cen_mono (s : Int) (hs : 3 ≤ s) {a b : Int} (ha : 1 ≤ a) (h : a ≤ b) : cen s a ≤ cen s b := by
  rcases Int.lt_or_eq_of_le h with h | h
  · have := cen_lt s hs a ha (b - a - 1).toNat
    have e : a + ((b - a - 1).toNat : Int) + 1 = b := by omega
    rw [e] at this
    omega
  · rw [h]; exact Int.le_refl _

structure CenBds (s k : Int) : Prop where
  a0 : 0 ≤ s * k
  a1 : s * k ≤ 72000000
  b0 : 0 ≤ s * k * (k - 1)
  b1 : s * k * (k - 1) ≤ 216000000000000
theorem cen_bds (s k : Int) (h1 : 3 ≤ s) (h2 : s ≤ 24) (h3 : 0 ≤ k) (h4 : k ≤ 3000000) : CenBds s k := by
  have e1 := Int.mul_nonneg (a := s) (b := k) (by omega) h3
  have e2 := Int.mul_nonneg (a := s) (b := 3000000 - k) (by omega) (by omega)
  have e3 := pr_nn k
  have e4 := sq_le k 3000000 (by omega) h4
  have e5 := Int.mul_nonneg (a := s) (b := k * (k - 1)) (by omega) e3
  have f0 : k * (k - 1) = k * k - k := by grind
  have e6 := Int.mul_nonneg (a := s) (b := 9000000000000 - k * (k - 1)) (by omega) (by omega)
  have f2 : s * (3000000 - k) = 3000000 * s - s * k := by grind
  have f5 : s * (k * (k - 1)) = s * k * (k - 1) := by grind
  have f6 : s * (9000000000000 - k * (k - 1)) = 9000000000000 * s - s * k * (k - 1) := by grind
  constructor <;> omega

def IsCpl (s n k : Int) : Prop := 1 ≤ k ∧ cen s k ≤ n ∧ n < cen s (k + 1)
theorem cpl_ex (s : Int) (hs : 3 ≤ s) (n : Nat) : ∃ k, IsCpl s ((n : Int) + 1) k := by
  induction n with
  | zero =>
    refine ⟨1, by omega, by simp [cen_one], ?_⟩
    have := cen_succ s 1
    rw [cen_one] at this
    omega
  | succ n ih =>
    obtain ⟨k, h0, h1, h2⟩ := ih
    by_cases h : cen s (k + 1) ≤ ((n + 1 : Nat) : Int) + 1
    · refine ⟨k + 1, by omega, h, ?_⟩
      have := cen_lt s hs (k + 1) (by omega) 0
      simp at this
      omega
    · exact ⟨k, h0, by omega, by omega⟩
/-- The greatest place of at least 1 whose centred number is no greater; for 0 it is 0. -/
noncomputable def cpl (s n : Int) : Int := if n = 0 then 0 else Classical.epsilon (IsCpl s n)
theorem cpl_is (s n : Int) (hs : 3 ≤ s) (hn : 1 ≤ n) : IsCpl s n (cpl s n) := by
  have e : n = ((n - 1).toNat : Int) + 1 := by omega
  unfold cpl
  rw [if_neg (by omega)]
  rw [e]
  exact Classical.epsilon_spec (cpl_ex s hs _)
theorem cpl_zero (s : Int) : cpl s 0 = 0 := by simp [cpl]
theorem cpl_nn (s n : Int) (hs : 3 ≤ s) (hn : 0 ≤ n) : 0 ≤ cpl s n := by
  by_cases h : n = 0
  · rw [h, cpl_zero]; omega
  · have := (cpl_is s n hs (by omega)).1
    omega
theorem cfits_iff (s n k : Int) (hs : 3 ≤ s) (hn : 0 ≤ n) (hk : 1 ≤ k) : cen s k ≤ n ↔ k ≤ cpl s n := by
  by_cases h0 : n = 0
  · rw [h0, cpl_zero]
    have := cen_mono s hs (a := 1) (b := k) (by omega) hk
    rw [cen_one] at this
    omega
  · obtain ⟨c0, c1, c2⟩ := cpl_is s n hs (by omega)
    constructor
    · intro h
      rcases Int.lt_or_le (cpl s n) k with hlt | hle
      · have := cen_mono s hs (a := cpl s n + 1) (b := k) (by omega) (by omega)
        omega
      · exact hle
    · intro h
      have := cen_mono s hs hk h
      omega
theorem cpl_le (s n : Int) (hs : 3 ≤ s) (hn : 0 ≤ n) (h : n ≤ 1000000000000) : cpl s n ≤ 1000000 := by
  rcases Int.lt_or_le 1000000 (cpl s n) with hlt | hle
  · have h1 := (cfits_iff s n 1000001 hs hn (by omega)).2 (by omega)
    have h2 := cen_twice s 1000001
    have h3 := Int.mul_le_mul_of_nonneg_right (a := 3) (b := s) (c := 1000001 * (1000001 - 1)) hs (by omega)
    omega
  · exact hle

/-! ### places below 0 -/
theorem neg_twice (s k : Int) : 2 * num s (-k) = (s - 2) * k * k + (s - 4) * k := by
  have := num_twice s (-k)
  grind
theorem neg_succ (s k : Int) : num s (-(k + 1)) = num s (-k) + (s - 2) * k + (s - 3) := by
  have h1 := neg_twice s k
  have h2 := neg_twice s (k + 1)
  grind
theorem neg_le (s : Int) (hs : 3 ≤ s) (a : Int) (ha : 0 ≤ a) (d : Nat) : num s (-a) ≤ num s (-(a + d)) := by
  induction d with
  | zero => simp
  | succ d ih =>
    have h1 := neg_succ s (a + d)
    have h2 := Int.mul_nonneg (a := s - 2) (b := a + d) (by omega) (by omega)
    have e : a + ((d + 1 : Nat) : Int) = a + d + 1 := by omega
    rw [e]
    omega
theorem neg_mono (s : Int) (hs : 3 ≤ s) {a b : Int} (ha : 0 ≤ a) (h : a ≤ b) : num s (-a) ≤ num s (-b) := by
  have := neg_le s hs a ha (b - a).toNat
  have e : a + ((b - a).toNat : Int) = b := by omega
  rwa [e] at this
theorem neg_lt (s : Int) (hs : 3 ≤ s) (k : Int) (hk : 1 ≤ k) : num s (-k) < num s (-(k + 1)) := by
  have h1 := neg_succ s k
  have h2 := Int.mul_pos (a := s - 2) (b := k) (by omega) (by omega)
  omega
/-- the number of -k is at least k (k - 1) / 2 -/
theorem neg_ge (s k : Int) (hs : 3 ≤ s) : k * (k - 1) ≤ 2 * num s (-k) := by
  have h1 := neg_twice s k
  have h2 := Int.mul_nonneg (a := s - 3) (b := k * (k + 1)) (by omega) (pr_nn' k)
  have h3 : (s - 2) * k * k + (s - 4) * k = (s - 3) * (k * (k + 1)) + k * (k - 1) := by grind
  omega

def IsWl (s n k : Int) : Prop := 0 ≤ k ∧ num s (-k) ≤ n ∧ n < num s (-(k + 1))
theorem wl_ex (s : Int) (hs : 3 ≤ s) (n : Nat) : ∃ k, IsWl s n k := by
  induction n with
  | zero =>
    by_cases h : s = 3
    · refine ⟨1, by omega, ?_, ?_⟩
      · have := neg_twice s 1
        subst h
        simp at this ⊢
        omega
      · have := neg_twice s 2
        subst h
        simp at this ⊢
        omega
    · refine ⟨0, by omega, by simp [num_zero], ?_⟩
      have := neg_twice s 1
      simp at this ⊢
      omega
  | succ n ih =>
    obtain ⟨k, h0, h1, h2⟩ := ih
    by_cases h : num s (-(k + 1)) ≤ ((n + 1 : Nat) : Int)
    · exact ⟨k + 1, by omega, h, by have := neg_lt s hs (k + 1) (by omega); omega⟩
    · exact ⟨k, h0, by omega, by omega⟩
noncomputable def wl (s n : Int) : Int := Classical.epsilon (IsWl s n)
theorem wl_is (s n : Int) (hs : 3 ≤ s) (hn : 0 ≤ n) : IsWl s n (wl s n) := by
  obtain ⟨m, rfl⟩ := Int.eq_ofNat_of_zero_le hn
  exact Classical.epsilon_spec (wl_ex s hs m)
theorem wfits_iff (s n k : Int) (hs : 3 ≤ s) (hn : 0 ≤ n) (hk : 0 ≤ k) : num s (-k) ≤ n ↔ k ≤ wl s n := by
  obtain ⟨h0, h1, h2⟩ := wl_is s n hs hn
  constructor
  · intro h
    rcases Int.lt_or_le (wl s n) k with hlt | hle
    · have := neg_mono s hs (a := wl s n + 1) (b := k) (by omega) (by omega)
      omega
    · exact hle
  · intro h
    have := neg_mono s hs hk h
    omega
theorem wl_nn (s n : Int) (hs : 3 ≤ s) (hn : 0 ≤ n) : 0 ≤ wl s n := (wl_is s n hs hn).1
theorem wl_le (s n : Int) (hs : 3 ≤ s) (hn : 0 ≤ n) (h : n ≤ 1000000000000) : wl s n ≤ 1500000 := by
  rcases Int.lt_or_le 1500000 (wl s n) with hlt | hle
  · have h1 := (wfits_iff s n 1500001 hs hn (by omega)).2 (by omega)
    have h2 := neg_ge s 1500001 hs
    omega
  · exact hle
/-- Where a number has a place of each sign, the one that is not below 0 is of no greater size. -/
theorem both (s n : Int) (hs : 3 ≤ s) (hn : 0 ≤ n) (h1 : num s (pl s n) = n) : pl s n ≤ wl s n ∨ num s (-(wl s n)) ≠ n := by
  by_cases h4 : s ≤ 4
  · refine Or.inl ((wfits_iff s n _ hs hn (pl_nn s n hs hn)).1 ?_)
    have e1 := neg_twice s (pl s n)
    have e2 := num_twice s (pl s n)
    have e3 := Int.mul_nonneg (a := 4 - s) (b := pl s n) (by omega) (pl_nn s n hs hn)
    have e4 : (4 - s) * pl s n = -((s - 4) * pl s n) := by grind
    omega
  · by_cases h2 : num s (-(wl s n)) = n
    · refine Or.inl ?_
      have e1 := neg_twice s (wl s n)
      have e2 := num_twice s (pl s n)
      have p0 := pl_nn s n hs hn
      have w0 := wl_nn s n hs hn
      generalize pl s n = k at *
      generalize wl s n = l at *
      rw [h1] at e2
      rw [h2] at e1
      have e3 : (l + k) * ((s - 2) * (k - l) - (s - 4)) = 0 := by grind
      rcases Int.mul_eq_zero.1 e3 with e | e
      · omega
      · exfalso
        rcases Int.lt_or_le l k with hlt | hle
        · have := Int.mul_nonneg (a := s - 2) (b := k - l - 1) (by omega) (by omega)
          have e5 : (s - 2) * (k - l - 1) = (s - 2) * (k - l) - (s - 2) := by grind
          omega
        · have := Int.mul_nonneg (a := s - 2) (b := l - k) (by omega) (by omega)
          have e5 : (s - 2) * (l - k) = -((s - 2) * (k - l)) := by grind
          omega
    · exact Or.inr h2

/-! ### roots -/
def IsRt (n k : Int) : Prop := 0 ≤ k ∧ k * k ≤ n ∧ n < (k + 1) * (k + 1)
theorem sq_mono {a b : Int} (ha : 0 ≤ a) (h : a ≤ b) : a * a ≤ b * b := Int.mul_le_mul h h ha (by omega)
theorem rt_ex (n : Nat) : ∃ k, IsRt n k := by
  induction n with
  | zero => exact ⟨0, by omega, by simp, by simp⟩
  | succ n ih =>
    obtain ⟨k, h0, h1, h2⟩ := ih
    by_cases h : (k + 1) * (k + 1) ≤ ((n + 1 : Nat) : Int)
    · refine ⟨k + 1, by omega, h, ?_⟩
      have e : (k + 1 + 1) * (k + 1 + 1) = (k + 1) * (k + 1) + 2 * k + 3 := by grind
      omega
    · exact ⟨k, h0, by omega, by omega⟩
noncomputable def rt (n : Int) : Int := Classical.epsilon (IsRt n)
theorem rt_is (n : Int) (hn : 0 ≤ n) : IsRt n (rt n) := by
  obtain ⟨m, rfl⟩ := Int.eq_ofNat_of_zero_le hn
  exact Classical.epsilon_spec (rt_ex m)
theorem rfits_iff (n k : Int) (hn : 0 ≤ n) (hk : 0 ≤ k) : k * k ≤ n ↔ k ≤ rt n := by
  obtain ⟨h0, h1, h2⟩ := rt_is n hn
  constructor
  · intro h
    rcases Int.lt_or_le (rt n) k with hlt | hle
    · have := sq_mono (a := rt n + 1) (b := k) (by omega) (by omega)
      omega
    · exact hle
  · intro h
    have := sq_mono hk h
    omega
theorem rt_nn (n : Int) (hn : 0 ≤ n) : 0 ≤ rt n := (rt_is n hn).1
theorem rt_le (n : Int) (hn : 0 ≤ n) (h : n ≤ 4000000000000000000) : rt n ≤ 2000000000 := by
  rcases Int.lt_or_le 2000000000 (rt n) with hlt | hle
  · have h1 := (rfits_iff n 2000000001 hn (by omega)).2 (by omega)
    omega
  · exact hle
theorem rt_uniq (n k : Int) (hn : 0 ≤ n) (h0 : 0 ≤ k) (h1 : k * k ≤ n) (h2 : n < (k + 1) * (k + 1)) : k = rt n := by
  have a := (rfits_iff n k hn h0).1 h1
  have b : ¬ (k + 1 ≤ rt n) := fun h => by
    have := (rfits_iff n (k + 1) hn (by omega)).2 h
    omega
  omega
/-- A power of 2. -/
def P2 (t : Int) : Prop := ∃ j : Nat, t = ((2 ^ j : Nat) : Int)
theorem P2.pos {t : Int} (h : P2 t) : 1 ≤ t := by
  obtain ⟨j, rfl⟩ := h
  have := Nat.pow_pos (n := j) (show 0 < 2 by omega)
  omega
theorem P2.half {t : Int} (h : P2 t) (h1 : t ≠ 1) : P2 (t / 2) ∧ t = 2 * (t / 2) := by
  obtain ⟨j, rfl⟩ := h
  cases j with
  | zero => simp at h1
  | succ j =>
    have e : (2 ^ (j + 1) : Nat) = 2 * 2 ^ j := by rw [Nat.pow_succ]; omega
    rw [e]
    have e2 : (((2 * 2 ^ j : Nat) : Int)) / 2 = ((2 ^ j : Nat) : Int) := by omega
    rw [e2]
    exact ⟨⟨j, rfl⟩, by omega⟩
theorem P2.start : P2 2147483648 := ⟨31, by decide⟩
end Go.Proofs.YtljleceepghfjaaDoor

/- Plain arithmetic of chapter 5: pairs of factors, runs, odd divisors, differences of squares: lists of the specification and of the program, and why they are the same. No program in sight. -/
namespace Go.Proofs.YtljleceepghfjaaDoor

/-- The numbers 1, 2, .., k. -/
def upTo (k : Nat) : List Int := (List.range k).map fun (j : Nat) => (j : Int) + 1
theorem upTo_succ (k : Nat) : upTo (k + 1) = upTo k ++ [(k : Int) + 1] := by simp [upTo, List.range_succ]
theorem mem_upTo (k : Nat) (x : Int) : x ∈ upTo k ↔ 1 ≤ x ∧ x ≤ k := by
  simp only [upTo, List.mem_map, List.mem_range]
  constructor
  · rintro ⟨j, hj, rfl⟩
    omega
  · rintro ⟨h1, h2⟩
    exact ⟨(x - 1).toNat, by omega, by omega⟩
theorem upTo_lt (k : Nat) : (upTo k).Pairwise (· < ·) := by
  induction k with
  | zero => simp [upTo]
  | succ k ih =>
    rw [upTo_succ, List.pairwise_append]
    refine ⟨ih, by simp, fun a ha b hb => ?_⟩
    rw [mem_upTo] at ha
    simp at hb
    omega
/-- What f picks of 1, 2, .., k. -/
def sel {α : Type} (f : Int → Option α) (k : Nat) : List α := (upTo k).filterMap f
section
variable {α β : Type}
theorem sel_zero (f : Int → Option α) : sel f 0 = [] := by simp [sel, upTo]
theorem sel_some (f : Int → Option α) (k : Nat) {x : α} (h : f ((k : Int) + 1) = some x) : sel f (k + 1) = sel f k ++ [x] := by simp [sel, upTo_succ, List.filterMap_append, h]
theorem sel_none (f : Int → Option α) (k : Nat) (h : f ((k : Int) + 1) = none) : sel f (k + 1) = sel f k := by simp [sel, upTo_succ, List.filterMap_append, h]
theorem sel_len (f : Int → Option α) (k : Nat) : (sel f k).length ≤ k := by
  refine Nat.le_trans (List.length_filterMap_le _ _) ?_
  simp [upTo]
theorem sel_cut (f : Int → Option α) {k m : Nat} (hkm : k ≤ m) (h : ∀ l : Int, k < l → l ≤ m → f l = none) : sel f m = sel f k := by
  induction m with
  | zero => have : k = 0 := by omega
            rw [this]
  | succ m ih =>
    by_cases e : k = m + 1
    · rw [e]
    · rw [sel_none f m (h _ (by omega) (by omega))]
      exact ih (by omega) fun l h1 h2 => h l h1 (by omega)
theorem sel_congr {f g : Int → Option α} {k : Nat} (h : ∀ l : Int, 1 ≤ l → l ≤ k → f l = g l) : sel f k = sel g k := by
  induction k with
  | zero => simp [sel, upTo]
  | succ k ih =>
    have e := h ((k : Int) + 1) (by omega) (by omega)
    have i := ih fun l h1 h2 => h l h1 (by omega)
    unfold sel at *
    rw [upTo_succ, List.filterMap_append, List.filterMap_append, i]
    simp only [List.filterMap_cons, e, List.filterMap_nil]
theorem sel_bind (f : Int → Option α) (g : α → Option β) (k : Nat) : (sel f k).filterMap g = sel (fun l => (f l).bind g) k := by
  simp [sel, List.filterMap_filterMap]
theorem mem_sel (f : Int → Option α) (k : Nat) (x : α) : x ∈ sel f k ↔ ∃ l : Int, 1 ≤ l ∧ l ≤ k ∧ f l = some x := by
  simp only [sel, List.mem_filterMap, mem_upTo]
  constructor
  · rintro ⟨l, ⟨h1, h2⟩, h3⟩; exact ⟨l, h1, h2, h3⟩
  · rintro ⟨l, h1, h2, h3⟩; exact ⟨l, ⟨h1, h2⟩, h3⟩
/-- What is picked stands in the order of what it is picked by. -/
theorem sel_pairwise (f : Int → Option α) (R : α → α → Prop) (k : Nat) (h : ∀ (a b : Int) x y, 1 ≤ a → a < b → b ≤ k → f a = some x → f b = some y → R x y) : (sel f k).Pairwise R := by
  induction k with
  | zero => simp [sel, upTo]
  | succ k ih =>
    have i := ih fun a b x y h1 h2 h3 => h a b x y h1 h2 (by omega)
    cases e : f ((k : Int) + 1) with
    | none => rw [sel_none f k e]; exact i
    | some y =>
      rw [sel_some f k e, List.pairwise_append]
      refine ⟨i, by simp, fun x hx y' hy => ?_⟩
      simp at hy
      subst hy
      obtain ⟨l, h1, h2, h3⟩ := (mem_sel f k x).1 hx
      exact h l _ x y' h1 (by omega) (by omega) h3 e
end

/-! ### a product and its halves -/
theorem div_spec (n d : Int) (_ : 1 ≤ d) (hm : n % d = 0) : d * (n / d) = n := Int.mul_ediv_cancel' (Int.dvd_of_emod_eq_zero hm)
theorem div_pos' (n d : Int) (hn : 1 ≤ n) (hd : 1 ≤ d) (hm : n % d = 0) : 1 ≤ n / d := by
  have h := div_spec n d hd hm
  rcases Int.lt_or_le (n / d) 1 with h1 | h1
  · have := Int.mul_nonneg (a := d) (b := -(n / d)) (by omega) (by omega)
    have e : d * -(n / d) = -(d * (n / d)) := by grind
    omega
  · exact h1
theorem mul_mod0 (a b : Int) : (a * b) % a = 0 := Int.mul_emod_right a b
theorem mul_div0 (a b : Int) (ha : 1 ≤ a) : a * b / a = b := Int.mul_ediv_cancel_left b (by omega)
theorem le_of_sq {a b n : Int} (ha : 0 ≤ a) (_ : 0 ≤ b) (h1 : a * a ≤ n) (h2 : a * b = n) (ha1 : 1 ≤ a) : a ≤ b := by
  rcases Int.lt_or_le b a with h | h
  · have := Int.mul_le_mul_of_nonneg_left (show b + 1 ≤ a by omega) (show 0 ≤ a by omega)
    have e : a * (b + 1) = a * b + a := by grind
    omega
  · exact h
theorem tmod2 (x : Int) : x.tmod 2 = 0 ↔ x % 2 = 0 := by
  constructor
  · intro h
    have := Int.dvd_of_tmod_eq_zero h
    omega
  · intro h
    exact Int.tmod_eq_zero_of_dvd (by omega)
theorem tdiv2 (x : Int) (h : x % 2 = 0) : x.tdiv 2 = x / 2 := Int.tdiv_eq_ediv_of_dvd (by omega)

/-! ### pairs of factors -/
/-- The pair of factors whose lesser one is d. -/
def fP (n d : Int) : Option (Int × Int) := if n % d = 0 then some (d, n / d) else none
/-- All pairs of factors, the lesser factor first. -/
noncomputable def facs (n : Int) : List (Int × Int) := sel (fP n) (rt n).toNat
theorem mem_facs (n : Int) (hn : 1 ≤ n) (x : Int × Int) : x ∈ facs n ↔ 1 ≤ x.1 ∧ x.1 ≤ x.2 ∧ x.1 * x.2 = n := by
  rw [facs, mem_sel]
  have r0 := rt_nn n (by omega)
  constructor
  · rintro ⟨l, h1, h2, h3⟩
    unfold fP at h3
    split at h3
    · rename_i hm
      injection h3 with h3
      subst h3
      have e := div_spec n l h1 hm
      have p := div_pos' n l hn h1 hm
      have q := (rfits_iff n l (by omega) (by omega)).2 (by omega)
      exact ⟨h1, le_of_sq (by omega) (by omega) q e h1, e⟩
    · cases h3
  · rintro ⟨h1, h2, h3⟩
    have hm : n % x.1 = 0 := by rw [← h3]; exact mul_mod0 _ _
    have q : x.1 * x.1 ≤ n := by
      rw [← h3]
      exact Int.mul_le_mul_of_nonneg_left h2 (by omega)
    have q2 := (rfits_iff n x.1 (by omega) (by omega)).1 q
    refine ⟨x.1, h1, by omega, ?_⟩
    rw [fP, if_pos hm]
    have : n / x.1 = x.2 := by rw [← h3]; exact mul_div0 _ _ h1
    rw [this]
/-- Later pairs are closer together. -/
theorem facs_lt (n : Int) (hn : 1 ≤ n) : (facs n).Pairwise fun x y => x.1 < y.1 ∧ y.2 < x.2 := by
  unfold facs
  refine sel_pairwise _ _ _ fun a b x y h1 h2 h3 hx hy => ?_
  unfold fP at hx hy
  split at hx
  · rename_i ha
    split at hy
    · rename_i hb
      injection hx with hx
      injection hy with hy
      subst hx
      subst hy
      have e1 := div_spec n a h1 ha
      have e2 := div_spec n b (by omega) hb
      refine ⟨h2, ?_⟩
      show n / b < n / a
      rcases Int.lt_or_le (n / b) (n / a) with h | h
      · exact h
      · have p := div_pos' n a hn h1 ha
        have m1 := Int.mul_le_mul_of_nonneg_left h (show 0 ≤ a by omega)
        have m2 := Int.mul_le_mul_of_nonneg_right (show a + 1 ≤ b by omega) (show 0 ≤ n / b by omega)
        have e3 : (a + 1) * (n / b) = a * (n / b) + n / b := by grind
        omega
    · cases hy
  · cases hx
theorem facs_len (n : Int) (h0 : 1 ≤ n) (h1 : n ≤ 2000000) : (facs n).length ≤ 1500 := by
  have := sel_len (fP n) (rt n).toNat
  have h2 : rt n ≤ 1415 := by
    rcases Int.lt_or_le 1415 (rt n) with h | h
    · have := (rfits_iff n 1416 (by omega) (by omega)).2 (by omega)
      omega
    · exact h
  unfold facs
  omega

/-! ### runs -/
/-- The run of numbers of at least 1 that a pair of factors of twice the sum tells. -/
def gR (x : Int × Int) : Option (Int × Int) := if (x.2 - x.1) % 2 = 0 then none else some ((x.2 - x.1 + 1) / 2, x.1)
noncomputable def runsL (n : Int) : List (Int × Int) := (facs (2 * n)).filterMap gR
/-- What the specification looks at: a length. -/
def fS (n : Int) (signed : Bool) (l : Int) : Option (Int × Int) :=
  if 2 * n % l = 0 ∧ (2 * n / l - l + 1) % 2 = 0 ∧ (signed = true ∨ 1 ≤ (2 * n / l - l + 1) / 2) then some ((2 * n / l - l + 1) / 2, l) else none
theorem runs_eq (n : Int) (hn : 1 ≤ n) : sel (fS n false) (2 * n).toNat = runsL n := by
  have r0 := rt_nn (2 * n) (by omega)
  have hr : (rt (2 * n)).toNat ≤ (2 * n).toNat := by
    obtain ⟨a, b, c⟩ := rt_is (2 * n) (by omega)
    rcases Int.lt_or_le (2 * n) (rt (2 * n)) with h | h
    · have := Int.mul_le_mul_of_nonneg_left (show 1 ≤ rt (2 * n) by omega) (show 0 ≤ rt (2 * n) by omega)
      omega
    · omega
  unfold runsL facs
  rw [sel_bind, sel_cut (fS n false) hr]
  · refine sel_congr fun l h1 h2 => ?_
    have q := (rfits_iff (2 * n) l (by omega) (by omega)).2 (by omega)
    unfold fS fP
    by_cases hm : 2 * n % l = 0
    · have e := div_spec (2 * n) l h1 hm
      have p := div_pos' (2 * n) l (by omega) h1 hm
      have le := le_of_sq (by omega) (by omega) q e h1
      generalize 2 * n / l = b at *
      simp only [hm, if_true, Option.bind_some, gR]
      by_cases hp : (b - l) % 2 = 0
      · have : ¬ ((b - l + 1) % 2 = 0) := by omega
        simp [hp, this]
      · have h3 : (b - l + 1) % 2 = 0 := by omega
        have h4 : 1 ≤ (b - l + 1) / 2 := by omega
        simp [hp, h3, h4]
    · simp [hm]
  · intro l h1 h2
    unfold fS
    have h3 : ¬ (l * l ≤ 2 * n) := fun h => by
      have := (rfits_iff (2 * n) l (by omega) (by omega)).1 h
      omega
    by_cases hm : 2 * n % l = 0
    · have e := div_spec (2 * n) l (by omega) hm
      have h4 : 2 * n / l < l := by
        rcases Int.lt_or_le (2 * n / l) l with h | h
        · exact h
        · have := Int.mul_le_mul_of_nonneg_left h (show 0 ≤ l by omega)
          omega
      have : ¬ (1 ≤ (2 * n / l - l + 1) / 2) := by omega
      simp [this]
    · simp [hm]
theorem mem_runsL (n : Int) (hn : 1 ≤ n) (r : Int × Int) : r ∈ runsL n ↔ ∃ a b, 1 ≤ a ∧ a < b ∧ a * b = 2 * n ∧ (b - a) % 2 = 1 ∧ r = ((b - a + 1) / 2, a) := by
  unfold runsL
  rw [List.mem_filterMap]
  constructor
  · rintro ⟨x, hx, h⟩
    obtain ⟨h1, h2, h3⟩ := (mem_facs (2 * n) (by omega) x).1 hx
    unfold gR at h
    split at h
    · cases h
    · rename_i hp
      injection h with h
      exact ⟨x.1, x.2, h1, by omega, h3, by omega, h.symm⟩
  · rintro ⟨a, b, h1, h2, h3, h4, rfl⟩
    refine ⟨(a, b), (mem_facs (2 * n) (by omega) (a, b)).2 ⟨h1, by simp; omega, h3⟩, ?_⟩
    rw [gR, if_neg (by simp; omega)]
theorem runs_len (n : Int) (h0 : 1 ≤ n) (h1 : n ≤ 1000000) : (runsL n).length ≤ 1500 := Nat.le_trans (List.length_filterMap_le _ _) (facs_len (2 * n) (by omega) (by omega))
theorem pw_filterMap {α β : Type} (g : α → Option β) (R : α → α → Prop) (S : β → β → Prop) : ∀ {l : List α}, l.Pairwise R → (∀ x ∈ l, ∀ y ∈ l, ∀ a b, R x y → g x = some a → g y = some b → S a b) → (l.filterMap g).Pairwise S
  | [], _, _ => by simp
  | x :: l, h, hg => by
    rw [List.pairwise_cons] at h
    have ih := pw_filterMap g R S h.2 fun x hx y hy => hg x (by simp [hx]) y (by simp [hy])
    cases e : g x with
    | none => simpa [e] using ih
    | some a =>
      simp only [List.filterMap_cons, e, List.pairwise_cons]
      refine ⟨fun b hb => ?_, ih⟩
      obtain ⟨y, hy, e2⟩ := List.mem_filterMap.1 hb
      exact hg x (by simp) y (by simp [hy]) a b (h.1 y hy) e e2
/-- Longer runs begin at lesser numbers and end before. -/
theorem runs_lt (n : Int) (hn : 1 ≤ n) : (runsL n).Pairwise fun x y => x.2 < y.2 ∧ y.1 + y.2 < x.1 + x.2 ∧ y.1 < x.1 := by
  unfold runsL
  refine pw_filterMap gR _ _ (facs_lt (2 * n) (by omega)) fun x hx y hy a b hxy ha hb => ?_
  obtain ⟨h1, h2, h3⟩ := (mem_facs (2 * n) (by omega) x).1 hx
  obtain ⟨k1, k2, k3⟩ := (mem_facs (2 * n) (by omega) y).1 hy
  unfold gR at ha hb
  split at ha
  · cases ha
  · split at hb
    · cases hb
    · injection ha with ha
      injection hb with hb
      subst ha
      subst hb
      -- x.1 < y.1 <= y.2 < x.2, one product: the sums fall
      have hs : y.1 + y.2 < x.1 + x.2 := by
        rcases Int.lt_or_le (y.1 + y.2) (x.1 + x.2) with h | h
        · exact h
        · have m1 := Int.mul_pos (a := y.1 - x.1) (b := x.2 - y.1) (by omega) (by omega)
          have m2 := Int.mul_nonneg (a := y.1) (b := y.1 + y.2 - (x.1 + x.2)) (by omega) (by omega)
          have e1 : (y.1 - x.1) * (x.2 - y.1) = y.1 * (x.1 + x.2) - y.1 * y.1 - x.1 * x.2 := by grind
          have e2 : y.1 * (y.1 + y.2 - (x.1 + x.2)) = y.1 * y.1 + y.1 * y.2 - y.1 * (x.1 + x.2) := by grind
          omega
      refine ⟨hxy.1, ?_, ?_⟩ <;> simp only <;> omega
end Go.Proofs.YtljleceepghfjaaDoor

/- Plain facts of chapter 9: clues, what fits them, and puzzles. No program in sight. -/
namespace Go.Proofs.YtljleceepghfjaaDoor

/-- A clue: its kind, A and B. -/
structure Clu where
  k : Int
  a : Int
  b : Int
/-- It is a clue. -/
def okc9 (c : Clu) : Bool :=
  if c.k = 0 ∨ c.k = 1 ∨ c.k = 5 then decide ((3 ≤ c.a ∧ c.a ≤ 24) ∧ c.b = 0)
  else if c.k = 2 then decide ((2 ≤ c.a ∧ c.a ≤ 100) ∧ (0 ≤ c.b ∧ c.b ≤ c.a - 1))
  else if c.k = 3 then decide ((0 ≤ c.a ∧ c.a ≤ 100) ∧ c.b = 0)
  else if c.k = 4 then decide ((0 ≤ c.a ∧ c.a ≤ 100) ∧ (3 ≤ c.b ∧ c.b ≤ 24))
  else false
/-- A number is polygonal. -/
noncomputable def shp9 (s n : Int) : Bool := decide (0 ≤ n) && (num s (pl s n) == n)
/-- The sum of the decimal digits, as the loop reckons it. -/
def dgs9 : Nat → Nat → Nat
  | 0, _ => 0
  | f + 1, n => if n = 0 then 0 else n % 10 + dgs9 f (n / 10)
theorem dgs9_zero (f : Nat) : dgs9 f 0 = 0 := by cases f <;> simp [dgs9]
theorem dgs9_more : ∀ (f g n : Nat), n ≤ f → f ≤ g → dgs9 f n = dgs9 g n
  | 0, g, n, h, _ => by
    obtain rfl : n = 0 := by omega
    rw [dgs9_zero, dgs9_zero]
  | f + 1, 0, n, _, h => by omega
  | f + 1, g + 1, n, h, hg => by
    rw [dgs9, dgs9]
    by_cases h0 : n = 0
    · rw [if_pos h0, if_pos h0]
    · rw [if_neg h0, if_neg h0, dgs9_more f g (n / 10) (by omega) (by omega)]
def dig9 (n : Nat) : Nat := dgs9 n n
theorem dig9_step (n : Nat) (h : 0 < n) : dig9 n = n % 10 + dig9 (n / 10) := by
  obtain ⟨m, rfl⟩ : ∃ m, n = m + 1 := ⟨n - 1, by omega⟩
  unfold dig9
  rw [dgs9, if_neg (by omega), dgs9_more ((m + 1) / 10) m ((m + 1) / 10) (Nat.le_refl _) (by omega)]
theorem dig9_zero : dig9 0 = 0 := rfl
theorem dig9_le : ∀ n, dig9 n ≤ n := fun n => by
  induction n using Nat.strongRecOn with
  | ind n ih =>
    by_cases h : n = 0
    · subst h; exact Nat.le_refl _
    · rw [dig9_step n (by omega)]
      have := ih (n / 10) (by omega)
      omega
/-- Two polygonal numbers of places of at least 1 are it together, the first one of a place up to k. -/
noncomputable def two9 (s n : Int) : Nat → Bool
  | 0 => false
  | k + 1 => two9 s n k || (decide (num s ((k : Int) + 1) < n) && shp9 s (n - num s ((k : Int) + 1)))
noncomputable def sum9 (s : Int) (n : Nat) : Bool := two9 s n n
theorem num_place (s : Int) (hs : 3 ≤ s) : ∀ k : Nat, (k : Int) ≤ num s k
  | 0 => by rw [show ((0 : Nat) : Int) = 0 from rfl, num_zero]; omega
  | k + 1 => by
    have h := num_place s hs k
    have h2 := num_succ s (k : Int)
    have h3 : 0 ≤ (s - 2) * (k : Int) := Int.mul_nonneg (by omega) (by omega)
    rw [show (((k + 1 : Nat)) : Int) = (k : Int) + 1 by omega]
    omega
/-- Behind a place whose number is not less none is found. -/
theorem two9_end (s : Int) (hs : 3 ≤ s) (n : Int) (k : Nat) (h : n ≤ num s ((k : Int) + 1)) : ∀ m, k ≤ m → two9 s n m = two9 s n k := fun m hm => by
  induction m with
  | zero => obtain rfl : k = 0 := by omega
            rfl
  | succ m ih =>
    rcases Nat.lt_or_ge m k with h1 | h1
    · obtain rfl : k = m + 1 := by omega
      rfl
    · have h2 := num_mono_le s hs (a := (k : Int) + 1) (b := (m : Int) + 1) (by omega) (by omega)
      rw [two9, ih h1, decide_eq_false (by omega), Bool.false_and, Bool.or_false]
theorem two9_found (s n : Int) (k : Nat) (h : two9 s n k = true) : ∀ m, k ≤ m → two9 s n m = true := fun m hm => by
  induction m with
  | zero => obtain rfl : k = 0 := by omega
            exact h
  | succ m ih =>
    rcases Nat.lt_or_ge m k with h1 | h1
    · obtain rfl : k = m + 1 := by omega
      exact h
    · rw [two9, ih h1, Bool.true_or]
/-- A number fits a clue. -/
noncomputable def fit9 (c : Clu) (n : Nat) : Bool :=
  if c.k = 0 then shp9 c.a n
  else if c.k = 1 then !shp9 c.a n
  else if c.k = 2 then decide ((n : Int) % c.a = c.b)
  else if c.k = 3 then decide ((dig9 n : Int) = c.a)
  else if c.k = 4 then shp9 c.b ((n : Int) - c.a)
  else sum9 c.a n
/-- A puzzle is one. -/
def okp9 (most : Int) (cs : List Clu) : Bool := decide (1 ≤ most ∧ most ≤ 500) && decide (cs.length ≤ 6) && cs.all okc9
/-- The numbers that fit all clues. -/
noncomputable def sol9 (cs : List Clu) (n : Nat) : List Int := sel (fun m => if cs.all (fun c => fit9 c m.toNat) = true then some m else none) n
/-- The cells of clues. -/
def flat9 : List Clu → List Int
  | [] => []
  | c :: l => c.k :: c.a :: c.b :: flat9 l
theorem flat9_len : ∀ cs : List Clu, (flat9 cs).length = cs.length * 3
  | [] => rfl
  | c :: l => by rw [flat9, List.length_cons, List.length_cons, List.length_cons, flat9_len l, List.length_cons]; omega
theorem flat9_app : ∀ a b : List Clu, flat9 (a ++ b) = flat9 a ++ flat9 b
  | [], b => rfl
  | c :: l, b => by rw [List.cons_append, flat9, flat9_app l b]; rfl
instance : Inhabited Clu := ⟨⟨0, 0, 0⟩⟩
def clu0 : Clu := ⟨0, 0, 0⟩
theorem flat9_at : ∀ (cs : List Clu) (k : Nat), k < cs.length → (flat9 cs)[k * 3]? = some (cs.getD k clu0).k ∧ (flat9 cs)[k * 3 + 1]? = some (cs.getD k clu0).a ∧ (flat9 cs)[k * 3 + 2]? = some (cs.getD k clu0).b
  | [], k, h => by simp at h
  | c :: l, 0, _ => ⟨rfl, rfl, rfl⟩
  | c :: l, k + 1, h => by
    have := flat9_at l k (by simpa using h)
    rw [show (k + 1) * 3 = k * 3 + 3 by omega, List.getD_cons_succ]
    exact this
/-- Out of three times as many numbers come clues. -/
def clues9 : Nat → List Int → List Clu
  | 0, _ => []
  | n + 1, Z => ⟨Z.getD 0 0, Z.getD 1 0, Z.getD 2 0⟩ :: clues9 n (Z.drop 3)
theorem clues9_len : ∀ (n : Nat) (Z : List Int), (clues9 n Z).length = n
  | 0, _ => rfl
  | n + 1, Z => by rw [clues9, List.length_cons, clues9_len n]
theorem clues9_flat : ∀ (n : Nat) (Z : List Int), Z.length = n * 3 → flat9 (clues9 n Z) = Z
  | 0, Z, h => by
    rw [clues9, flat9]
    exact (List.eq_nil_of_length_eq_zero (by omega)).symm
  | n + 1, Z, h => by
    match Z, h with
    | a :: b :: c :: l, h =>
      rw [clues9, flat9]
      show a :: b :: c :: flat9 (clues9 n l) = _
      rw [clues9_flat n l (by simp at h; omega)]
    | [], h => simp at h
    | [_], h => simp at h; omega
    | [_, _], h => simp at h; omega
end Go.Proofs.YtljleceepghfjaaDoor

/- Contracts of the specification's functions of chapter 1: bounds, numbers of places, the place of a number. -/
namespace Go.Proofs.YtljleceepghfjaaDoor
open Go.RowKit

theorem in_yes (n lo hi : Int) (w : World) (h1 : lo ≤ n) (h2 : n ≤ hi) :
    Calls Tryd.prog 19 #[.int .i64 n, .int .i64 lo, .int .i64 hi] w fun e w' => e = .returned (.bool true) ∧ w = w' := by
  go_enter Tryd.func19, Tryd.ntmps19
  go_wp2
  go_ret
  exact ⟨rfl, rfl⟩
theorem in_no (n lo hi : Int) (w : World) (h : n < lo ∨ hi < n) :
    Calls Tryd.prog 19 #[.int .i64 n, .int .i64 lo, .int .i64 hi] w fun e w' => e = .returned (.bool false) ∧ w = w' := by
  rcases Int.lt_or_le n lo with h1 | h1
  · go_enter Tryd.func19, Tryd.ntmps19
    go_wp2
    go_ret
    exact ⟨rfl, rfl⟩
  · have h2 : decide (n ≤ hi) = false := by simp; omega
    go_enter Tryd.func19, Tryd.ntmps19
    go_wp2
    go_ret
    exact ⟨rfl, rfl⟩

theorem shSides_yes (s : Int) (w : World) (h1 : 3 ≤ s) (h2 : s ≤ 24) :
    Calls Tryd.prog 28 #[.int .i64 s] w fun e w' => e = .returned (.bool true) ∧ w = w' := by
  go_enter Tryd.func28, Tryd.ntmps28
  go_wp2_with (go_at_call 19; refine (in_yes _ _ _ _ h1 h2).mono ?_; rintro e w' ⟨rfl, rfl⟩)
  go_ret
  exact ⟨rfl, rfl⟩
theorem shSides_no (s : Int) (w : World) (h : s < 3 ∨ 24 < s) :
    Calls Tryd.prog 28 #[.int .i64 s] w fun e w' => e = .returned (.bool false) ∧ w = w' := by
  have H := Lib.hid h
  clear h
  go_enter Tryd.func28, Tryd.ntmps28
  go_wp2_with (go_at_call 19; refine (in_no _ _ _ _ H.out).mono ?_; rintro e w' ⟨rfl, rfl⟩)
  go_ret
  exact ⟨rfl, rfl⟩



end Go.Proofs.YtljleceepghfjaaDoor

/- Contracts of the program's functions of chapter 1: bounds, rules, the search for a last place. -/
namespace Go.Proofs.YtljleceepghfjaaDoor
open Go.RowKit

theorem within_yes (n lo hi : Int) (w : World) (h1 : lo ≤ n) (h2 : n ≤ hi) :
    Calls Tryd.prog 52 #[.int .i64 n, .int .i64 lo, .int .i64 hi] w fun e w' => e = .returned (.bool true) ∧ w = w' := by
  go_enter Tryd.func52, Tryd.ntmps52
  go_wp2
  go_ret
  exact ⟨rfl, rfl⟩
theorem within_no (n lo hi : Int) (w : World) (h : n < lo ∨ hi < n) :
    Calls Tryd.prog 52 #[.int .i64 n, .int .i64 lo, .int .i64 hi] w fun e w' => e = .returned (.bool false) ∧ w = w' := by
  rcases Int.lt_or_le n lo with h1 | h1
  · go_enter Tryd.func52, Tryd.ntmps52
    go_wp2
    go_ret
    exact ⟨rfl, rfl⟩
  · have h2 : decide (n ≤ hi) = false := by simp; omega
    go_enter Tryd.func52, Tryd.ntmps52
    go_wp2
    go_ret
    exact ⟨rfl, rfl⟩


end Go.Proofs.YtljleceepghfjaaDoor

/- Plain arithmetic of chapter 5, 2: odd divisors counted, signed runs in order, differences of squares, one sorted list. No program in sight. -/
namespace Go.Proofs.YtljleceepghfjaaDoor

/-- A list in the order of a key, none equal, is the only one of its permutations in that order. -/
theorem sort_uniq {α : Type} (key : α → Int) {l s : List α} (hp : l.Perm s) (hs : s.Pairwise fun x y => key x < key y) (hl : l.Pairwise fun x y => ¬ key y < key x) : l = s := by
  have hinj : ∀ a ∈ s, ∀ b ∈ s, key a = key b → a = b := by
    intro a ha b hb he
    clear hp hl
    induction s with
    | nil => simp at ha
    | cons x s ih =>
      rw [List.pairwise_cons] at hs
      simp only [List.mem_cons] at ha hb
      rcases ha with rfl | ha
      · rcases hb with rfl | hb
        · rfl
        · have := hs.1 b hb; omega
      · rcases hb with rfl | hb
        · have := hs.1 a ha; omega
        · exact ih hs.2 ha hb
  refine List.Perm.eq_of_pairwise (le := fun x y => key x ≤ key y) (fun a b ha hb h1 h2 => hinj a (hp.subset ha) b hb (by omega)) (hl.imp fun h => by omega) (hs.imp fun h => by omega) hp

/-! ### odd divisors -/
/-- How many of 1, 3, .., 2 k - 1 divide n. -/
def oddC (n : Int) (k : Nat) : Nat := ((List.range k).filter fun (j : Nat) => decide (n % (2 * (j : Int) + 1) = 0)).length
theorem oddC_yes (n : Int) (k : Nat) (h : n % (2 * (k : Int) + 1) = 0) : oddC n (k + 1) = oddC n k + 1 := by simp [oddC, List.range_succ, List.filter_append, h]
theorem oddC_no (n : Int) (k : Nat) (h : ¬ n % (2 * (k : Int) + 1) = 0) : oddC n (k + 1) = oddC n k := by simp [oddC, List.range_succ, List.filter_append, h]
theorem oddC_le (n : Int) (k : Nat) : oddC n k ≤ k := by
  refine Nat.le_trans (List.length_filter_le _ _) ?_
  simp
/-- The odd factor of a run's pair. -/
def oddOf (r : Int × Int) : Int := if r.2 % 2 = 1 then r.2 else 2 * r.1 - 1 + r.2
theorem odd_half (a b n : Int) (h : a * b = 2 * n) (_ : a % 2 = 1) (hb : b % 2 = 0) : a * (b / 2) = n := by
  have e : b = 2 * (b / 2) := by omega
  have e2 : a * b = 2 * (a * (b / 2)) := by
    rw [show a * b = a * (2 * (b / 2)) by rw [← e]]
    grind
  omega
theorem mod_of_mul {a c n : Int} (h : a * c = n) : n % a = 0 := by rw [← h]; exact mul_mod0 a c
theorem odd_count (n : Int) (k : Nat) (hn : 1 ≤ n) (hk : n < 2 * (k : Int) + 1) : oddC n k = (runsL n).length := by
  have hp : (((List.range k).filter fun (j : Nat) => decide (n % (2 * (j : Int) + 1) = 0)).map fun (j : Nat) => 2 * (j : Int) + 1).Perm ((runsL n).map oddOf) := by
    rw [List.perm_ext_iff_of_nodup]
    · intro d
      simp only [List.mem_map, List.mem_filter, List.mem_range, decide_eq_true_eq]
      constructor
      · rintro ⟨j, ⟨hj, hm⟩, rfl⟩
        obtain ⟨d, hd⟩ : ∃ d : Int, d = 2 * (j : Int) + 1 := ⟨_, rfl⟩
        rw [← hd] at hm ⊢
        have e := div_spec n d (by omega) hm
        have p := div_pos' n d hn (by omega) hm
        generalize n / d = c at e p
        have e2 : d * (2 * c) = 2 * n := by rw [← e]; grind
        rcases Int.lt_or_le d (2 * c) with h | h
        · refine ⟨((2 * c - d + 1) / 2, d), (mem_runsL n hn _).2 ⟨d, 2 * c, by omega, h, e2, by omega, rfl⟩, ?_⟩
          rw [oddOf, if_pos (by simp; omega)]
        · refine ⟨((d - 2 * c + 1) / 2, 2 * c), (mem_runsL n hn _).2 ⟨2 * c, d, by omega, by omega, by rw [Int.mul_comm]; exact e2, by omega, rfl⟩, ?_⟩
          rw [oddOf, if_neg (by simp)]
          simp only
          omega
      · rintro ⟨r, hr, rfl⟩
        obtain ⟨a, b, h1, h2, h3, h4, rfl⟩ := (mem_runsL n hn r).1 hr
        unfold oddOf
        by_cases ha : a % 2 = 1
        · have hb : b % 2 = 0 := by omega
          have e := odd_half a b n h3 ha hb
          have hle : a ≤ n := by
            rw [← e]
            have := Int.mul_le_mul_of_nonneg_left (show 1 ≤ b / 2 by omega) (show 0 ≤ a by omega)
            omega
          simp only [ha, if_true]
          refine ⟨(a / 2).toNat, ⟨by omega, ?_⟩, by omega⟩
          rw [show 2 * (((a / 2).toNat : Nat) : Int) + 1 = a by omega]
          exact mod_of_mul e
        · have hb : b % 2 = 1 := by omega
          have e := odd_half b a n (by rw [Int.mul_comm]; exact h3) hb (by omega)
          have hle : b ≤ n := by
            rw [← e]
            have := Int.mul_le_mul_of_nonneg_left (show 1 ≤ a / 2 by omega) (show 0 ≤ b by omega)
            omega
          simp only [ha, if_false]
          refine ⟨(b / 2).toNat, ⟨by omega, ?_⟩, by omega⟩
          rw [show 2 * (((b / 2).toNat : Nat) : Int) + 1 = b by omega]
          exact mod_of_mul e
    · rw [List.nodup_iff_pairwise_ne, List.pairwise_map]
      refine List.Pairwise.imp ?_ ((List.nodup_iff_pairwise_ne.1 List.nodup_range).filter _)
      intro a b hab h
      omega
    · rw [List.nodup_iff_pairwise_ne, List.pairwise_map]
      refine List.Pairwise.imp_of_mem ?_ (runs_lt n hn)
      intro x y hx hy ⟨h1, h2, h3⟩
      obtain ⟨a, b, a1, a2, a3, a4, rfl⟩ := (mem_runsL n hn x).1 hx
      obtain ⟨c, d, c1, c2, c3, c4, rfl⟩ := (mem_runsL n hn y).1 hy
      simp only at h1 h2 h3
      unfold oddOf
      by_cases ha : a % 2 = 1 <;> by_cases hc : c % 2 = 1 <;> simp only [ha, hc, if_true, if_false] <;> omega
  have := hp.length_eq
  simpa [oddC] using this

/-! ### signed runs -/
/-- The run of the same sum that begins at 0 or below. -/
def lessR (r : Int × Int) : Int × Int := (1 - r.1, r.1 + r.2 - 1 + r.1)
/-- The signed runs as the program appends them. -/
def signedP (rs : List (Int × Int)) : List (Int × Int) := rs.flatMap fun r => [r, lessR r]
theorem signedP_app (rs : List (Int × Int)) (r : Int × Int) : signedP (rs ++ [r]) = signedP rs ++ [r, lessR r] := by simp [signedP]
theorem signedP_len (rs : List (Int × Int)) : (signedP rs).length = 2 * rs.length := by
  induction rs with
  | nil => rfl
  | cons r rs ih => simp [signedP] at ih ⊢; omega
noncomputable def signedL (n : Int) : List (Int × Int) := sel (fS n true) (2 * n).toNat
theorem signed_lt (n : Int) : (signedL n).Pairwise fun x y => x.2 < y.2 := by
  unfold signedL
  refine sel_pairwise _ _ _ fun a b x y h1 h2 h3 hx hy => ?_
  unfold fS at hx hy
  split at hx
  · split at hy
    · injection hx with hx
      injection hy with hy
      subst hx
      subst hy
      exact h2
    · cases hy
  · cases hx
theorem signed_perm (n : Int) (hn : 1 ≤ n) : (signedP (runsL n)).Perm (signedL n) := by
  rw [List.perm_ext_iff_of_nodup]
  · intro r
    unfold signedP signedL
    rw [List.mem_flatMap, mem_sel]
    constructor
    · rintro ⟨x, hx, hr⟩
      obtain ⟨a, b, a1, a2, a3, a4, rfl⟩ := (mem_runsL n hn x).1 hx
      have ea : 2 * n % a = 0 := mod_of_mul a3
      have eb : 2 * n % b = 0 := mod_of_mul (by rw [Int.mul_comm]; exact a3)
      have da : 2 * n / a = b := by rw [← a3]; exact mul_div0 a b a1
      have db : 2 * n / b = a := by rw [← a3, Int.mul_comm]; exact mul_div0 b a (by omega)
      have hb : b ≤ 2 * n := by
        have := Int.mul_le_mul_of_nonneg_right a1 (show 0 ≤ b by omega)
        omega
      simp only [List.mem_cons, List.not_mem_nil, or_false] at hr
      rcases hr with rfl | rfl
      · refine ⟨a, a1, by omega, ?_⟩
        rw [fS, da, if_pos ⟨ea, by omega, Or.inl rfl⟩]
      · refine ⟨b, by omega, by omega, ?_⟩
        rw [fS, db, if_pos ⟨eb, by omega, Or.inl rfl⟩]
        simp only [lessR, Option.some.injEq, Prod.mk.injEq]
        omega
    · rintro ⟨l, h1, h2, h3⟩
      unfold fS at h3
      split at h3
      · rename_i hc
        obtain ⟨hm, hp, _⟩ := hc
        injection h3 with h3
        subst h3
        have e := div_spec (2 * n) l h1 hm
        have p := div_pos' (2 * n) l (by omega) h1 hm
        generalize 2 * n / l = c at *
        rcases Int.lt_or_le l c with h | h
        · refine ⟨((c - l + 1) / 2, l), (mem_runsL n hn _).2 ⟨l, c, h1, h, e, by omega, rfl⟩, by simp⟩
        · refine ⟨((l - c + 1) / 2, c), (mem_runsL n hn _).2 ⟨c, l, by omega, by omega, by rw [Int.mul_comm]; exact e, by omega, rfl⟩, ?_⟩
          simp only [lessR, List.mem_cons, Prod.mk.injEq, List.not_mem_nil, or_false]
          right
          omega
      · cases h3
  · unfold signedP
    rw [List.nodup_iff_pairwise_ne, List.pairwise_flatMap]
    refine ⟨fun x hx => ?_, ?_⟩
    · obtain ⟨a, b, a1, a2, a3, a4, rfl⟩ := (mem_runsL n hn x).1 hx
      simp [lessR]
      omega
    · refine List.Pairwise.imp_of_mem ?_ (runs_lt n hn)
      intro x y hx hy ⟨h1, h2, h3⟩ u hu v hv
      obtain ⟨a, b, a1, a2, a3, a4, rfl⟩ := (mem_runsL n hn x).1 hx
      obtain ⟨c, d, c1, c2, c3, c4, rfl⟩ := (mem_runsL n hn y).1 hy
      simp only [List.mem_cons, List.not_mem_nil, or_false, lessR] at hu hv
      simp only at h1 h2 h3
      rcases hu with rfl | rfl <;> rcases hv with rfl | rfl <;> (intro h; injection h with h5 h6; omega)
  · rw [List.nodup_iff_pairwise_ne]
    exact (signed_lt n).imp fun h e => by rw [e] at h; omega
theorem signed_len (n : Int) (h0 : 1 ≤ n) (h1 : n ≤ 1000000) : (signedL n).length ≤ 3000 := by
  rw [← (signed_perm n h0).length_eq, signedP_len]
  have := runs_len n h0 h1
  omega

/-! ### alike pairs: odd runs and differences of squares -/
def alikeB (x : Int × Int) : Bool := decide ((x.2 - x.1) % 2 = 0)
noncomputable def alikes (n : Int) : List (Int × Int) := (facs n).filter alikeB
def sqR (x : Int × Int) : List Int := [(x.1 + x.2) / 2, (x.2 - x.1) / 2]
def oddR (x : Int × Int) : Int × Int := (x.2 - x.1 + 1, x.1)
/-- What the specification looks at, a length of an odd run. -/
def fO (n l : Int) : Option (Int × Int) := if n % l = 0 ∧ ¬ (n / l - l + 1) % 2 = 0 then some (n / l - l + 1, l) else none
theorem odd_eq (n : Int) : sel (fO n) (rt n).toNat = (alikes n).map oddR := by
  have e : (alikes n).map oddR = (facs n).filterMap fun x => if alikeB x then some (oddR x) else none := by
    unfold alikes
    induction facs n with
    | nil => rfl
    | cons x l ih => cases h : alikeB x <;> simp [h, ih]
  rw [e, facs, sel_bind]
  refine sel_congr fun l h1 h2 => ?_
  unfold fO fP
  by_cases hm : n % l = 0
  · simp only [hm, if_true, Option.bind_some, alikeB, oddR, decide_eq_true_eq, true_and]
    by_cases hp : (n / l - l) % 2 = 0
    · have : ¬ (n / l - l + 1) % 2 = 0 := by omega
      simp [hp, this]
    · have : (n / l - l + 1) % 2 = 0 := by omega
      simp [hp, this]
  · simp [hm]
theorem alikes_len (n : Int) (h0 : 1 ≤ n) (h1 : n ≤ 1000000) : (alikes n).length ≤ 1500 := Nat.le_trans (List.length_filter_le _ _) (facs_len n h0 (by omega))
theorem mem_alikes (n : Int) (hn : 1 ≤ n) (x : Int × Int) : x ∈ alikes n ↔ 1 ≤ x.1 ∧ x.1 ≤ x.2 ∧ x.1 * x.2 = n ∧ (x.2 - x.1) % 2 = 0 := by
  unfold alikes
  rw [List.mem_filter, mem_facs n hn]
  simp [alikeB, and_assoc]
/-- Closer factors, a lesser sum. -/
theorem alikes_lt (n : Int) (hn : 1 ≤ n) : (alikes n).Pairwise fun x y => x.1 < y.1 ∧ y.1 + y.2 < x.1 + x.2 := by
  unfold alikes
  refine List.Pairwise.imp_of_mem ?_ ((facs_lt n hn).filter _)
  intro x y hx hy ⟨h1, h2⟩
  obtain ⟨a1, a2, a3⟩ := (mem_facs n hn x).1 (List.mem_filter.1 hx).1
  obtain ⟨b1, b2, b3⟩ := (mem_facs n hn y).1 (List.mem_filter.1 hy).1
  refine ⟨h1, ?_⟩
  rcases Int.lt_or_le (y.1 + y.2) (x.1 + x.2) with h | h
  · exact h
  · have m1 := Int.mul_pos (a := y.1 - x.1) (b := x.2 - y.1) (by omega) (by omega)
    have m2 := Int.mul_nonneg (a := y.1) (b := y.1 + y.2 - (x.1 + x.2)) (by omega) (by omega)
    have e1 : (y.1 - x.1) * (x.2 - y.1) = y.1 * (x.1 + x.2) - y.1 * y.1 - x.1 * x.2 := by grind
    have e2 : y.1 * (y.1 + y.2 - (x.1 + x.2)) = y.1 * y.1 + y.1 * y.2 - y.1 * (x.1 + x.2) := by grind
    omega
/-- The first numbers of the lists of squares fall. -/
theorem sq_falls (n : Int) (hn : 1 ≤ n) : (alikes n).Pairwise fun x y => (y.1 + y.2) / 2 < (x.1 + x.2) / 2 := by
  refine List.Pairwise.imp_of_mem ?_ (alikes_lt n hn)
  intro x y hx hy ⟨_, h2⟩
  have h3 := ((mem_alikes n hn x).1 hx).2.2.2
  have h4 := ((mem_alikes n hn y).1 hy).2.2.2
  omega
/-- What the specification looks at, a difference of two numbers. -/
def fQ (n d : Int) : Option (List Int) := if n % d = 0 ∧ (n / d - d) % 2 = 0 then some [(n / d + d) / 2, (n / d - d) / 2] else none
theorem sq_eq (n : Int) : sel (fQ n) (rt n).toNat = (alikes n).map sqR := by
  have e : (alikes n).map sqR = (facs n).filterMap fun x => if alikeB x then some (sqR x) else none := by
    unfold alikes
    induction facs n with
    | nil => rfl
    | cons x l ih => cases h : alikeB x <;> simp [h, ih]
  rw [e, facs, sel_bind]
  refine sel_congr fun l h1 h2 => ?_
  unfold fQ fP
  by_cases hm : n % l = 0
  · simp only [hm, if_true, Option.bind_some, alikeB, sqR, decide_eq_true_eq, true_and]
    by_cases hp : (n / l - l) % 2 = 0
    · have : n / l + l = l + n / l := by omega
      simp [hp, this]
    · simp [hp]
  · simp [hm]
/-- What is picked of r, r - 1, .., d + 1. -/
def selDown {α : Type} (f : Int → Option α) (r d : Nat) : List α := ((upTo r).drop d).reverse.filterMap f
theorem selDown_top {α : Type} (f : Int → Option α) (r : Nat) : selDown f r r = [] := by
  unfold selDown
  rw [List.drop_eq_nil_of_le (by simp [upTo])]
  rfl
theorem selDown_end {α : Type} (f : Int → Option α) (r : Nat) : selDown f r 0 = (sel f r).reverse := by simp [selDown, sel, List.filterMap_reverse]
theorem upTo_drop (r d : Nat) (h : d < r) : (upTo r).drop d = ((d : Int) + 1) :: (upTo r).drop (d + 1) := by
  rw [List.drop_eq_getElem_cons (by simp [upTo]; exact h)]
  simp [upTo]
theorem selDown_some {α : Type} (f : Int → Option α) (r d : Nat) (h : d < r) {x : α} (hx : f ((d : Int) + 1) = some x) : selDown f r d = selDown f r (d + 1) ++ [x] := by
  unfold selDown
  rw [upTo_drop r d h]
  simp [List.filterMap_append, hx]
theorem selDown_none {α : Type} (f : Int → Option α) (r d : Nat) (h : d < r) (hx : f ((d : Int) + 1) = none) : selDown f r d = selDown f r (d + 1) := by
  unfold selDown
  rw [upTo_drop r d h]
  simp [List.filterMap_append, hx]
theorem selDown_len {α : Type} (f : Int → Option α) (r d : Nat) : (selDown f r d).length ≤ r := by
  unfold selDown
  refine Nat.le_trans (List.length_filterMap_le _ _) ?_
  simp [upTo]
theorem rt_small (n : Int) (h0 : 1 ≤ n) (h1 : n ≤ 2000000) : 1 ≤ rt n ∧ rt n ≤ 1415 := by
  constructor
  · exact (rfits_iff n 1 (by omega) (by omega)).1 (by omega)
  · rcases Int.lt_or_le 1415 (rt n) with h | h
    · have := (rfits_iff n 1416 (by omega) (by omega)).2 (by omega)
      omega
    · exact h
/-- The last pair of factors. -/
theorem facs_last (n a : Int) (hn : 1 ≤ n) (h1 : 1 ≤ a) (h2 : a ≤ rt n) (hm : n % a = 0) (h : ∀ l, a < l → l ≤ rt n → ¬ n % l = 0) : facs n = sel (fP n) (a - 1).toNat ++ [(a, n / a)] := by
  have r := rt_nn n (by omega)
  unfold facs
  rw [sel_cut (fP n) (k := (a - 1).toNat + 1) (by omega)]
  · exact sel_some _ _ (by rw [show (((a - 1).toNat : Nat) : Int) + 1 = a by omega]; simp [fP, hm])
  · intro l h3 h4
    have := h l (by omega) (by omega)
    simp [fP, this]
theorem runs_ne (n : Int) (hn : 1 ≤ n) : runsL n ≠ [] := fun h => by
  have := (mem_runsL n hn ((2 * n - 1 + 1) / 2, 1)).2 ⟨1, 2 * n, by omega, by omega, by omega, by omega, rfl⟩
  rw [h] at this
  cases this
/-! ### triangles -/
def triR (r : Int × Int) : List Int := [r.1 + r.2 - 1, r.1 - 1]
theorem tri_falls (n : Int) (hn : 1 ≤ n) : (runsL n).Pairwise fun x y => y.1 + y.2 - 1 < x.1 + x.2 - 1 := (runs_lt n hn).imp fun h => by omega
end Go.Proofs.YtljleceepghfjaaDoor

/- A slice whose cells are known; what the laws' helpers do with slices of numbers: compare, mark, look again. -/
namespace Go.Proofs.YtljleceepghfjaaDoor
open Go.RowKit

/-- A slice at the address A has the cells cs, in a block from lo up to below hi, none of them frozen. -/
def Own (w : World) (lo hi : Nat) (A : Option Addr) (cs : List Value) : Prop :=
  0 < cs.length → ∃ g o, A = some ⟨g, o, none⟩ ∧ lo ≤ g ∧ g < hi ∧ ∀ j u, cs[j]? = some u → w.cell? ⟨g, o + j, none⟩ = some u ∧ w.frozen? ⟨g, o + j, none⟩ = false

section
variable {w w' : World} {lo hi : Nat} {A : Option Addr} {cs : List Value}
theorem Own.none_ : Own w lo hi none [] := fun h => absurd h (by simp)
theorem Own.nil_ : Own w lo hi A [] := fun h => absurd h (by simp)
theorem Own.below {B : Nat} (h : Own w lo hi A cs) (hb : Below B w w') (hB : hi ≤ B) : Own w' lo hi A cs := fun hn => by
  obtain ⟨g, o, e, h1, h2, hc⟩ := h hn
  refine ⟨g, o, e, h1, h2, fun j u hu => ?_⟩
  rw [hb.cell (p := ⟨g, o + j, none⟩) (Nat.lt_of_lt_of_le h2 hB), hb.frozen (p := ⟨g, o + j, none⟩) (Nat.lt_of_lt_of_le h2 hB)]
  exact hc j u hu
theorem Own.drewN (h : Own w lo hi A cs) (k : Nat) : Own (w.drewN k) lo hi A cs := h
theorem Own.wide (h : Own w lo hi A cs) {lo' hi' : Nat} (h1 : lo' ≤ lo) (h2 : hi ≤ hi') : Own w lo' hi' A cs := fun hn => by
  obtain ⟨g, o, e, h3, h4, hc⟩ := h hn
  exact ⟨g, o, e, by omega, by omega, hc⟩
theorem Own.at_ (h : Own w lo hi A cs) {k : Nat} (hk : k < cs.length) : ∃ g o, A = some ⟨g, o, none⟩ ∧ lo ≤ g ∧ g < hi ∧ w.cell? ⟨g, o + k, none⟩ = some cs[k] ∧ w.frozen? ⟨g, o + k, none⟩ = false := by
  obtain ⟨g, o, e, h1, h2, hc⟩ := h (by omega)
  obtain ⟨h3, h4⟩ := hc k _ (List.getElem?_eq_getElem hk)
  exact ⟨g, o, e, h1, h2, h3, h4⟩
/-- out of the library's word for a row of the call's own -/
theorem own_of_row {base : Nat} {e : TypeId} {size n c : Nat} (h : w.ownsRow base e size (.slice A n c) n cs) : Own w base w.heap.size A cs := fun hn => by
  obtain ⟨hl, h2⟩ := h
  rcases h2 with ⟨hv, h0⟩ | ⟨g, cap, cur, hv, hg, hh, hnc, hcm, hcs, ht⟩
  · subst h0
    simp at hl
    subst hl
    simp at hn
  · injection hv with hA _ _
    subst hA
    have hown : w.ownsRow base e size (.slice (some ⟨g, 0, none⟩) n cap) n cs := ⟨hl, .inr ⟨g, cap, cur, rfl, hg, hh, hnc, hcm, hcs, ht⟩⟩
    have hlt : g < w.heap.size := by
      rcases Nat.lt_or_ge g w.heap.size with h | h
      · exact h
      · rw [Array.getElem?_eq_none h] at hh; cases hh
    refine ⟨g, 0, rfl, hg, hlt, fun j u hu => ?_⟩
    have hj : j < n * size := by
      rw [← hl]
      exact (List.getElem?_eq_some_iff.1 hu).1
    rw [Nat.zero_add]
    exact ⟨(hown.cellAt j hj).trans hu, hown.frozenAt j⟩
theorem row_form {base : Nat} {e : TypeId} {size n : Nat} {v : Value} (h : w.ownsRow base e size v n cs) : ∃ A c, v = .slice A n c := by
  rcases h.2 with ⟨rfl, rfl⟩ | ⟨g, cap, cur, rfl, _⟩
  · exact ⟨_, _, rfl⟩
  · exact ⟨_, _, rfl⟩
end

theorem row_below {w w' : World} {base B : Nat} {e : TypeId} {size n : Nat} {v : Value} {cs : List Value} (h : w.ownsRow base e size v n cs) (hb : Below B w w') (hB : w.heap.size ≤ B) : w'.ownsRow base e size v n cs :=
  h.kept (row := none) ⟨hb.os, hb.tape, hb.output, hb.size, fun i hi _ => hb.block i (by omega)⟩ (by cases hv : v.ownBlock <;> simp)

/-- Numbers as cells. -/
abbrev i64s (xs : List Int) : List Value := xs.map (Value.int .i64)

/-- What a function with a slice of numbers and a bool hands back: the numbers xs, in memory of its own. -/
def ResI (ok : Bool) (xs : List Int) (w : World) (e : Ending) (w' : World) : Prop :=
  ∃ A c, e = .returned (.tuple #[.slice A xs.length c, .bool ok]) ∧ Own w' w.heap.size w'.heap.size A (i64s xs) ∧ Below w.heap.size w w'
theorem resI_nil {ok : Bool} {w w' : World} (hb : Below w.heap.size w w') : ResI ok [] w (.returned (.tuple #[.slice none 0 0, .bool ok])) w' := ⟨none, 0, rfl, Own.none_, hb⟩
theorem below_drewN {B : Nat} {a w : World} (h : Below B a w) (n : Nat) : Below B a (w.drewN n) := ⟨h.os, h.tape, h.output, h.size, h.block⟩


/-- The numbers m, m + 1, .., n of them. -/
def marks (m : Int) (n : Nat) : List Int := (List.range n).map fun (j : Nat) => m + (j : Int)
theorem marks_len (m : Int) (n : Nat) : (marks m n).length = n := by simp [marks]
theorem marks_get (m : Int) (n k : Nat) (h : k < n) : (marks m n)[k]? = some (m + k) := by simp [marks, h]
theorem marks_set (m : Int) (cs : List Value) (k : Nat) (h : k < cs.length) : (i64s (marks m k) ++ cs.drop k).set k (.int .i64 (m + k)) = i64s (marks m (k + 1)) ++ cs.drop (k + 1) := by
  rw [List.set_append_right _ _ (by simp [marks_len])]
  simp only [List.length_map, marks_len, Nat.sub_self]
  rw [List.drop_eq_getElem_cons h, List.set_cons_zero]
  simp [marks, List.range_succ]
theorem Own.set_ {w : World} {lo hi g o : Nat} {cs : List Value} (h : Own w lo hi (some ⟨g, o, none⟩) cs) (k : Nat) (hk : k < cs.length) (u : Value) : Own (w.setCell ⟨g, o + k, none⟩ u) lo hi (some ⟨g, o, none⟩) (cs.set k u) := fun hn => by
  obtain ⟨g', o', e, h1, h2, hc⟩ := h (by omega)
  injection e with e
  injection e with e1 e2 _
  subst e1
  subst e2
  refine ⟨g, o, rfl, h1, h2, fun j v hv => ?_⟩
  rw [World.frozen?_setCell]
  by_cases hj : j = k
  · subst hj
    rw [List.getElem?_set_self hk] at hv
    injection hv with hv
    subst hv
    obtain ⟨h3, h4⟩ := hc j _ (List.getElem?_eq_getElem hk)
    exact ⟨World.cell?_setCell_same w _ _ h3, h4⟩
  · rw [List.getElem?_set_ne (fun e => hj e.symm)] at hv
    obtain ⟨h3, h4⟩ := hc j v hv
    refine ⟨(World.cell?_setCell_other w _ _ _ (fun e => ?_)).trans h3, h4⟩
    injection e with _ e _
    omega


end Go.Proofs.YtljleceepghfjaaDoor

/- Slices of structs of two numbers: what the laws' helpers do with them. -/
namespace Go.Proofs.YtljleceepghfjaaDoor
open Go.RowKit

/-- Pairs of numbers as cells. -/
def prs (xs : List (Int × Int)) : List Value := xs.flatMap fun x => [.int .i64 x.1, .int .i64 x.2]
theorem prs_len (xs : List (Int × Int)) : (prs xs).length = 2 * xs.length := by
  induction xs with
  | nil => rfl
  | cons x xs ih => simp [prs] at ih ⊢; omega
theorem prs_get (xs : List (Int × Int)) (k : Nat) (h : k < xs.length) : (prs xs)[2 * k]? = some (.int .i64 xs[k].1) ∧ (prs xs)[2 * k + 1]? = some (.int .i64 xs[k].2) := by
  induction xs generalizing k with
  | nil => simp at h
  | cons x xs ih =>
    cases k with
    | zero => simp [prs]
    | succ k =>
      have := ih k (by simpa using h)
      have e1 : 2 * (k + 1) = 2 * k + 1 + 1 := by omega
      have e2 : 2 * (k + 1) + 1 = 2 * k + 1 + 1 + 1 := by omega
      rw [e2, e1]
      simpa [prs] using this
theorem prs_app (xs : List (Int × Int)) (a b : Int) : prs xs ++ [.int .i64 a, .int .i64 b] = prs (xs ++ [(a, b)]) := by simp [prs]
theorem Own.pair_ {w : World} {lo hi : Nat} {A : Option Addr} {xs : List (Int × Int)} (h : Own w lo hi A (prs xs)) {k : Nat} (hk : k < xs.length) :
    ∃ g o, A = some ⟨g, o, none⟩ ∧ lo ≤ g ∧ g < hi ∧ w.cell? ⟨g, o + k * 2, none⟩ = some (.int .i64 xs[k].1) ∧ w.cell? ⟨g, o + k * 2 + 1, none⟩ = some (.int .i64 xs[k].2) := by
  obtain ⟨g, o, e, h1, h2, hc⟩ := h (by rw [prs_len]; omega)
  obtain ⟨p1, p2⟩ := prs_get xs k hk
  refine ⟨g, o, e, h1, h2, ?_, ?_⟩
  · rw [Nat.mul_comm k 2]; exact (hc _ _ p1).1
  · rw [Nat.mul_comm k 2, Nat.add_assoc]; exact (hc _ _ p2).1
theorem mark2_step {w : World} {lo hi n k : Nat} {A : Option Addr} {cs : List Value} {m : Int} (h : Own w lo hi A (i64s (marks m (2 * k)) ++ cs.drop (2 * k))) (hn : cs.length = 2 * n) (hk : k < n) :
    ∃ g o z z', A = some ⟨g, o, none⟩ ∧ lo ≤ g ∧ w.cell? ⟨g, o + k * 2, none⟩ = some z ∧ w.frozen? ⟨g, o + k * 2, none⟩ = false ∧ w.cell? ⟨g, o + k * 2 + 1, none⟩ = some z' ∧ w.frozen? ⟨g, o + k * 2 + 1, none⟩ = false ∧
      Own ((w.setCell ⟨g, o + k * 2, none⟩ (.int .i64 (m + 2 * k))).setCell ⟨g, o + k * 2 + 1, none⟩ (.int .i64 (m + 2 * k + 1))) lo hi (some ⟨g, o, none⟩) (i64s (marks m (2 * (k + 1))) ++ cs.drop (2 * (k + 1))) := by
  have hl0 : 2 * k < cs.length := by omega
  have hl1 : 2 * k + 1 < cs.length := by omega
  have hlen : 2 * k < (i64s (marks m (2 * k)) ++ cs.drop (2 * k)).length := by simp [marks_len]; omega
  have hlen1 : 2 * k + 1 < (i64s (marks m (2 * k)) ++ cs.drop (2 * k)).length := by simp [marks_len]; omega
  obtain ⟨g, o, rfl, hg1, hg2, hc⟩ := h (by omega)
  obtain ⟨c0, f0⟩ := hc _ _ (List.getElem?_eq_getElem hlen)
  obtain ⟨c1, f1⟩ := hc _ _ (List.getElem?_eq_getElem hlen1)
  have o1 := h.set_ (2 * k) hlen (.int .i64 (m + (2 * k : Nat)))
  rw [marks_set m cs (2 * k) hl0] at o1
  have o2 := o1.set_ (2 * k + 1) (by simp [marks_len]; omega) (.int .i64 (m + (2 * k + 1 : Nat)))
  rw [marks_set m cs (2 * k + 1) hl1] at o2
  have a0 : o + 2 * k = o + k * 2 := by omega
  have a1 : o + (2 * k + 1) = o + k * 2 + 1 := by omega
  have a2 : m + ((2 * k : Nat) : Int) = m + 2 * k := by omega
  have a3 : m + ((2 * k + 1 : Nat) : Int) = m + 2 * k + 1 := by omega
  have a4 : 2 * k + 1 + 1 = 2 * (k + 1) := by omega
  rw [a0, a1, a2, a3, a4] at o2
  refine ⟨g, o, _, _, rfl, hg1, by rw [← a0]; exact c0, by rw [← a0]; exact f0, by rw [← a1]; exact c1, by rw [← a1]; exact f1, o2⟩
/-- What a function with a slice of pairs and a bool hands back. -/
def ResP (ok : Bool) (xs : List (Int × Int)) (w : World) (e : Ending) (w' : World) : Prop :=
  ∃ A c, e = .returned (.tuple #[.slice A xs.length c, .bool ok]) ∧ Own w' w.heap.size w'.heap.size A (prs xs) ∧ Below w.heap.size w w'
theorem resP_nil {ok : Bool} {w w' : World} (hb : Below w.heap.size w w') : ResP ok [] w (.returned (.tuple #[.slice none 0 0, .bool ok])) w' := ⟨none, 0, rfl, Own.none_, hb⟩










end Go.Proofs.YtljleceepghfjaaDoor

/- Chapter 5: bounds, a run's last number, the sums of runs. -/
namespace Go.Proofs.YtljleceepghfjaaDoor
open Go.ChangeShapes Go.WideShapes Go.ChangeAt Go.RowKit

def betr (x lo hi : Int) : Bool := decide (lo ≤ x ∧ x ≤ hi)
theorem betr_yes {x lo hi : Int} (h1 : lo ≤ x) (h2 : x ≤ hi) : betr x lo hi = true := decide_eq_true ⟨h1, h2⟩
theorem betr_no {x lo hi : Int} (h : x < lo ∨ hi < x) : betr x lo hi = false := decide_eq_false (by omega)
theorem rin_any (x lo hi : Int) (w : World) : Calls Tryd.prog 19 #[.int .i64 x, .int .i64 lo, .int .i64 hi] w fun e w' => e = .returned (.bool (betr x lo hi)) ∧ w = w' := by
  by_cases h : x < lo ∨ hi < x
  · rw [betr_no h]; exact in_no _ _ _ _ h
  · rw [betr_yes (x := x) (lo := lo) (hi := hi) (by omega) (by omega)]; exact in_yes _ _ _ _ (by omega) (by omega)
theorem rwithin_any (x lo hi : Int) (w : World) : Calls Tryd.prog 52 #[.int .i64 x, .int .i64 lo, .int .i64 hi] w fun e w' => e = .returned (.bool (betr x lo hi)) ∧ w = w' := by
  by_cases h : x < lo ∨ hi < x
  · rw [betr_no h]; exact within_no _ _ _ _ h
  · rw [betr_yes (x := x) (lo := lo) (hi := hi) (by omega) (by omega)]; exact within_yes _ _ _ _ (by omega) (by omega)
theorem ret_bool {a b : Bool} (h : a = b) : Ending.returned (.bool a) = .returned (.bool b) := by rw [h]
/-! ### sums of runs -/
/-- What the walks over a run's sum ask. -/
structure SumBds (f l : Int) : Prop where
  f0 : -1000000 ≤ f
  f1 : f ≤ 1000000
  l0 : 0 ≤ l
  l1 : l ≤ 1000000
  p0 : -3000000000000 ≤ l * f
  p1 : l * f ≤ 3000000000000
  q0 : 0 ≤ l * (l - 1)
  q1 : l * (l - 1) ≤ 3000000000000
  r0 : -6000000000000 ≤ l * (f + (f + l - 1))
  r1 : l * (f + (f + l - 1)) ≤ 6000000000000
  s : (l * (f + (f + l - 1))).tdiv 2 = l * f + l * (l - 1) / 2
theorem sum_bds' (f l : Int) (f0 : -1000000 ≤ f) (f1 : f ≤ 1000000) (l0 : 0 ≤ l) (l1 : l ≤ 1000000) : SumBds f l := by
  have a1 := Int.mul_nonneg (a := l) (b := 1000000 - f) l0 (by omega)
  have a2 := Int.mul_nonneg (a := l) (b := 1000000 + f) l0 (by omega)
  have e1 : l * (1000000 - f) = 1000000 * l - l * f := by grind
  have e2 : l * (1000000 + f) = 1000000 * l + l * f := by grind
  have b1 := pr_nn l
  have b2 := Int.mul_nonneg (a := l) (b := 1000000 - l) l0 (by omega)
  have e3 : l * (1000000 - l) = 1000000 * l - l * (l - 1) - l := by grind
  have e4 : l * (f + (f + l - 1)) = 2 * (l * f) + l * (l - 1) := by grind
  have ev := even_pr l
  have e5 : (l * (f + (f + l - 1))).tdiv 2 = (l * (f + (f + l - 1))) / 2 := tdiv2 _ (by omega)
  refine ⟨f0, f1, l0, l1, by omega, by omega, by omega, by omega, by omega, by omega, ?_⟩
  rw [e5]
  omega
end Go.Proofs.YtljleceepghfjaaDoor
