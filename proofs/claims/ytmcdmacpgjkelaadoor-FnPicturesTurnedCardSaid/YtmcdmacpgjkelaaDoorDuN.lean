/- Chapter 7: a map that has places for keys, as a set of places: what it holds, how it is ranged over. Of no one program. -/
import Derived.Test.YtmcdmacpgjkelaaDoorMa
import Derived.Maps.RangeWalk
import Derived.WideKeyPair
import Derived.DeepKeys4
import Derived.WalkKit
import Derived.ProofKit
import Derived.OpenShut
import Derived.Deep.Draws
namespace Go.Proofs.YtmcdmacpgjkelaaDoor
open Go.ChangeShapes Go.WideShapes Go.ChangeAt Go.RowKit Go.Maps

/-- A place as a key, as a value. -/
def vk (x y : Int) : Lit := .string (keyBytes [.int .i64 x, .int .i64 y])
def vv (x y : Int) : Value := .agg #[.int .i64 x, .int .i64 y]
def wf2 (x y : Int) : Prop := (Lit.int .i64 x).wf = true ∧ (Lit.int .i64 y).wf = true
theorem wf2_of {x y : Int} (x0 : -9223372036854775808 ≤ x) (x1 : x ≤ 9223372036854775807) (y0 : -9223372036854775808 ≤ y) (y1 : y ≤ 9223372036854775807) : wf2 x y := ⟨WalkArith.wf_i64 ⟨x0, x1⟩, WalkArith.wf_i64 ⟨y0, y1⟩⟩
/-- A type of places as a key's type. -/
structure VKey (P : Program) (k : TypeId) : Prop where
  K : Keyed P k
  key : ∀ x y, wf2 x y → keyOf P k (vv x y) = some (vk x y)
  inv : ∀ key kl, keyOf P k key = some kl → ∃ x y, wf2 x y ∧ key = vv x y
section
variable {P : Program} {k : TypeId}
theorem VKey.inv2 (V : VKey P k) {key : Value} {kl : Lit} (h : keyOf P k key = some kl) : ∃ x y, wf2 x y ∧ key = vv x y ∧ kl = vk x y := by
  obtain ⟨x, y, hw, rfl⟩ := V.inv key kl h
  have := V.key x y hw
  rw [h] at this
  exact ⟨x, y, hw, rfl, Option.some.inj this⟩
theorem VKey.inj (V : VKey P k) {x y u v : Int} (h1 : wf2 x y) (h2 : wf2 u v) (h : vk x y = vk u v) : x = u ∧ y = v := by
  have e := V.K.inj (V.key x y h1) (by rw [h]; exact V.key u v h2)
  unfold vv at e
  simp at e
  exact e
theorem VKey.isKey (V : VKey P k) {x y : Int} (h : wf2 x y) : WideAt.IsKeyLit (vk x y) := V.K.key (V.key x y h)
theorem VKey.same (V : VKey P k) {x y u v : Int} (h1 : wf2 x y) (h2 : wf2 u v) : (vk x y).sameKey (vk u v) = (decide (x = u) && decide (y = v)) := by
  by_cases h : x = u ∧ y = v
  · obtain ⟨rfl, rfl⟩ := h
    rw [WideAt.sameKey_self (V.isKey h1)]
    simp
  · rw [sameKey_ne (fun e => h (V.inj h1 h2 e))]
    by_cases a : x = u
    · have : ¬ y = v := fun b => h ⟨a, b⟩
      simp [this]
    · simp [a]
/-- From the key's type alone. -/
theorem vkey_of {e : TypeId} (A : WideMaps.ArrKey P k e 2) (he : P.underlying e = some (.int .i64)) (hsz : ∃ m, P.types.size = m + 1) (K : Keyed P k) : VKey P k where
  K := K
  key := fun x y h => WideMaps.keyOf_pair A he hsz h.1 h.2
  inv := fun key kl h => by
    obtain ⟨xs, L, rfl, h1, h2⟩ := keyOf_top A.wide h
    obtain ⟨m, hm⟩ := hsz
    rw [hm] at h1
    unfold Program.keyLits at h1
    simp only [A.hu] at h1
    split at h1
    · rename_i hl
      rw [show List.range 2 = [0, 1] from rfl, List.mapM_cons, List.mapM_cons, List.mapM_nil] at h1
      obtain ⟨xs⟩ := xs
      rw [A.size] at hl
      match xs, hl with
      | [c0, c1], _ =>
        simp only [A.one, bind, pure, Option.map_eq_some_iff, Option.bind_eq_some_iff, Option.some.injEq] at h1
        obtain ⟨_, ⟨L0, g0, _, ⟨L1, g1, _, rfl, rfl⟩, rfl⟩, _⟩ := h1
        have one : ∀ (c : Value) (L0 : List Lit), P.keyLits (m + 1) e [c] = some L0 → ∃ a, c = .int .i64 a ∧ (Lit.int .i64 a).wf = true := by
          intro c L0 g
          unfold Program.keyLits at g
          rw [he] at g
          cases c <;> simp at g
          obtain ⟨⟨rfl, hw⟩, _⟩ := g
          exact ⟨_, rfl, hw⟩
        obtain ⟨a, rfl, ha⟩ := one c0 L0 (by simpa using g0)
        obtain ⟨b, rfl, hb⟩ := one c1 L1 (by simpa using g1)
        exact ⟨a, b, ⟨ha, hb⟩, rfl⟩
    · cases h1

/-! ### sets -/
/-- What a map's datum holds. -/
structure Has (D : DataW Unit) (S : Int → Int → Bool) : Prop where
  bd : Bd 100 100 S
  has : ∀ x y, wf2 x y → Maps.has D (vk x y) = S x y
/-- Block b is a map that has just the places of the set S. -/
def Dots (P : Program) (k : TypeId) (w : World) (b : Nat) (S : Int → Int → Bool) : Prop := ∃ D : DataW Unit, w.ownsMap P k unitElem b (Maps.size D) D ∧ Has D S
theorem Bd.wf {S : Int → Int → Bool} (h : Bd 100 100 S) {x y : Int} (hs : S x y = true) : wf2 x y := by
  have := h x y hs
  exact wf2_of (by omega) (by omega) (by omega) (by omega)
variable {w : World} {b n : Nat} {D : DataW Unit} {S T : Int → Int → Bool}
theorem owns_tight (h : w.ownsMap P k unitElem b n D) : w.ownsMap P k unitElem b (Maps.size D) D := by
  obtain ⟨es, clock, hb, F, hs, rfl⟩ := h
  exact ⟨es, clock, hb, F, by simp [Maps.size, length_sorted], rfl⟩
/-- The keys of a map's datum. -/
def keysOf : DataW Unit → List Lit
  | .map es => es.map (·.1)
  | _ => []
theorem keysOf_len (D : DataW Unit) : (keysOf D).length = Maps.size D := by cases D <;> simp [keysOf, Maps.size]
theorem owns_keys (V : VKey P k) (h : w.ownsMap P k unitElem b n D) : (keysOf D).Nodup ∧ ∀ kl, kl ∈ keysOf D ↔ Maps.has D kl = true ∧ ∃ x y, wf2 x y ∧ kl = vk x y := by
  have he := h.entries V.K
  obtain ⟨es, clock, hb, F, hs, rfl⟩ := h
  obtain ⟨es2, e2, hpw, hkey⟩ := he
  injection e2 with e2
  refine ⟨?_, fun kl => ?_⟩
  · show List.Pairwise (· ≠ ·) (((es.toList.map (WideElems.rg P k unitElem)).foldr DataW.insert []).map (·.1))
    rw [List.pairwise_map, e2]
    exact hpw
  · show kl ∈ (((es.toList.map (WideElems.rg P k unitElem)).foldr DataW.insert []).map (·.1)) ↔ _
    constructor
    · intro hm
      obtain ⟨p, hp, rfl⟩ := List.mem_map.1 hm
      refine ⟨List.any_eq_true.2 ⟨p, hp, WideAt.sameKey_self (hkey p (by rw [← e2]; exact hp))⟩, ?_⟩
      obtain ⟨x, hx, rfl⟩ := List.mem_map.1 (mem_sorted.1 hp)
      obtain ⟨y, hy⟩ := F.reads x hx
      obtain ⟨a, c, hw, _, e⟩ := V.inv2 (WideElems.rd_key hy)
      exact ⟨a, c, hw, by rw [WideElems.rg_of hy]; exact e⟩
    · rintro ⟨hh, _⟩
      obtain ⟨p, hp, hk⟩ := List.any_eq_true.1 hh
      exact List.mem_map.2 ⟨p, hp, WideAt.sameKey_eq hk⟩
/-- How many there are. -/
theorem has_size (V : VKey P k) (h : w.ownsMap P k unitElem b n D) (hs : Has D S) {W H : Nat} (hb : Bd W H S) : Maps.size D = cnt (sD W S) (W * H) := by
  obtain ⟨hnd, hmem⟩ := owns_keys V h
  have hW : ∀ x y, S x y = true → wf2 x y := fun x y hxy => hs.bd.wf hxy
  have hnd2 : (((List.range (W * H)).filter (sD W S)).map fun i => vk ((i % W : Nat) : Int) ((i / W : Nat) : Int)).Nodup := by
    have hr : ((List.range (W * H)).filter (sD W S)).Nodup := List.nodup_range.filter _
    refine List.pairwise_map.2 (hr.imp_of_mem (fun {i j} hi hj hne e => hne ?_))
    have hi2 := List.mem_filter.1 hi
    have hj2 := List.mem_filter.1 hj
    obtain ⟨e1, e3⟩ := V.inj (hW _ _ hi2.2) (hW _ _ hj2.2) e
    obtain ⟨_, _, a⟩ := place_of (List.mem_range.1 hi2.1)
    obtain ⟨_, _, c⟩ := place_of (List.mem_range.1 hj2.1)
    rw [← a, ← c, Int.ofNat_inj.1 e1, Int.ofNat_inj.1 e3]
  have hperm : (keysOf D).Perm (((List.range (W * H)).filter (sD W S)).map fun i => vk ((i % W : Nat) : Int) ((i / W : Nat) : Int)) := by
    refine (List.perm_ext_iff_of_nodup hnd hnd2).2 fun kl => ?_
    rw [hmem]
    constructor
    · rintro ⟨hh, x, y, hw, rfl⟩
      rw [hs.has x y hw] at hh
      have hbb := hb x y hh
      obtain ⟨a, rfl⟩ := Int.eq_ofNat_of_zero_le hbb.1
      obtain ⟨c, rfl⟩ := Int.eq_ofNat_of_zero_le hbb.2.2.1
      have ha : a < W := by omega
      have hc : c < H := by omega
      refine List.mem_map.2 ⟨c * W + a, List.mem_filter.2 ⟨List.mem_range.2 (place_lt ha hc), ?_⟩, ?_⟩
      · unfold sD
        rw [place_x ha, place_y ha]
        exact hh
      · rw [place_x ha, place_y ha]
    · intro hm
      obtain ⟨i, hi, rfl⟩ := List.mem_map.1 hm
      have hi2 := List.mem_filter.1 hi
      exact ⟨by rw [hs.has _ _ (hW _ _ hi2.2)]; exact hi2.2, _, _, hW _ _ hi2.2, rfl⟩
  rw [← keysOf_len, hperm.length_eq, List.length_map, cnt, List.countP_eq_length_filter]
theorem has_small (V : VKey P k) (h : w.ownsMap P k unitElem b n D) (hs : Has D S) : Maps.size D ≤ 10000 := by
  rw [has_size V h hs hs.bd]
  exact cnt_le _ _

/-! ### carried -/
theorem Dots.lt (h : Dots P k w b S) : b < w.heap.size := let ⟨_, h, _⟩ := h; h.lt
theorem Dots.bd (h : Dots P k w b S) : Bd 100 100 S := let ⟨_, _, h⟩ := h; h.bd
theorem Dots.kept {w' : World} {row : Option Nat} (h : Dots P k w b S) (hg : w.grownBy w' row) (hne : some b ≠ row) : Dots P k w' b S := by
  obtain ⟨D, h, hs⟩ := h
  exact ⟨D, h.kept hg hne, hs⟩
theorem grown_of_below {B : Nat} {w w' : World} (h : Below B w w') (hB : w.heap.size ≤ B) : w.grownBy w' none := ⟨h.os, h.tape, h.output, h.size, fun i hi _ => h.block i (by omega)⟩
theorem Dots.below {w' : World} (h : Dots P k w b S) (hb : Below w.heap.size w w') : Dots P k w' b S := h.kept (grown_of_below hb (Nat.le_refl _)) (by simp)
theorem Dots.below2 {w' : World} {B : Nat} (h : Dots P k w b S) (hb : Below B w w') (hB : b < B) : Dots P k w' b S := by
  obtain ⟨D, ⟨es, clock, hh, r⟩, hs⟩ := h
  exact ⟨D, ⟨es, clock, (hb.block b hB).trans hh, r⟩, hs⟩
theorem Dots.alloc (h : Dots P k w b S) (o : Obj) : Dots P k (w.alloc o) b S := h.kept (World.grownBy_alloc w o none) (by simp)
theorem Dots.drew (h : Dots P k w b S) : Dots P k w.drew b S := h
theorem Dots.drewN (h : Dots P k w b S) (n : Nat) : Dots P k (w.drewN n) b S := h
theorem Dots.setCell (h : Dots P k w b S) {a : Addr} (ha : b ≠ a.block) (u : Value) : Dots P k (w.setCell a u) b S := by
  obtain ⟨D, h, hs⟩ := h
  exact ⟨D, h.setCell ha u, hs⟩
theorem Dots.congr (h : Dots P k w b S) (e : ∀ x y, S x y = T x y) : Dots P k w b T := by
  have : S = T := by funext x y; exact e x y
  rw [← this]
  exact h
theorem Dots.made (w : World) : Dots P k (w.alloc (.map #[] 0)) w.heap.size (fun _ _ => false) :=
  ⟨.map [], World.ownsMap_made w P k _, ⟨fun _ _ h => (by cases h), fun _ _ _ => rfl⟩⟩
theorem Dots.size (V : VKey P k) (h : Dots P k w b S) {W H : Nat} (hb : Bd W H S) {t e : TypeId} (ht : P.underlying t = some (.map k e)) (ty : TypeId) :
    (Builtin.len_ #[t] ty #[.map (some b)]).run P w = .ok (.int .i64 (cnt (sD W S) (W * H) : Nat)) w := by
  obtain ⟨D, h, hs⟩ := h
  rw [h.len ht ty, has_size V h hs hb]

/-! ### a set ranged over -/
/-- Block r is an iterator over the set S in block b, of which the places of L are still to come. -/
def Rg (P : Program) (k : TypeId) (w : World) (b r : Nat) (S L : Int → Int → Bool) : Prop :=
  ∃ (D : DataW Unit) (left : Lit → Bool) (c : Nat), w.ranges P k unitElem b r (Maps.size D) D left c ∧ Has D S ∧ (∀ x y, L x y = true → S x y = true) ∧ ∀ x y, wf2 x y → left (vk x y) = L x y
variable {L : Int → Int → Bool} {r : Nat}
theorem Rg.dots (h : Rg P k w b r S L) : Dots P k w b S := by
  obtain ⟨D, left, c, h, hs, _, _⟩ := h
  exact ⟨D, h.owns, hs⟩
theorem Rg.lt (h : Rg P k w b r S L) : r < w.heap.size := by
  obtain ⟨D, left, c, h, hs, _, _⟩ := h
  exact h.lt
theorem Rg.ne (h : Rg P k w b r S L) : r ≠ b := by
  obtain ⟨D, left, c, h, hs, _, _⟩ := h
  exact h.ne
theorem Rg.sub (h : Rg P k w b r S L) {x y : Int} (hl : L x y = true) : S x y = true := by
  obtain ⟨D, left, c, h, hs, h2, _⟩ := h
  exact h2 x y hl
theorem Rg.kept {w' : World} {row : Option Nat} (h : Rg P k w b r S L) (hg : w.grownBy w' row) (hb : some b ≠ row) (hr : some r ≠ row) : Rg P k w' b r S L := by
  obtain ⟨D, left, c, h, rest⟩ := h
  exact ⟨D, left, c, h.kept hg hb hr, rest⟩
theorem Rg.left {w' : World} {row : Option Nat} (h : Rg P k w b r S L) (hg : w.grownBy w' row) (hb : some b ≠ row) (hr : some r ≠ row) : w'.rangeLeft b r = w.rangeLeft b r := by
  obtain ⟨D, left, c, h, rest⟩ := h
  rw [h.left_eq, (h.kept hg hb hr).left_eq]
theorem Rg.alloc (h : Rg P k w b r S L) (o : Obj) : Rg P k (w.alloc o) b r S L := h.kept (World.grownBy_alloc w o none) (by simp) (by simp)
theorem Rg.below {w' : World} (h : Rg P k w b r S L) (hb : Below w.heap.size w w') : Rg P k w' b r S L := h.kept (grown_of_below hb (Nat.le_refl _)) (by simp) (by simp)
end

/-! ### at the operations -/
section
variable {P : Program} {k : TypeId} (V : VKey P k) (w : World) {ops : Array Oper} {rest : List Oper} {o : Oper} {a : Act} {Q : Exit → Act → World → Prop}
include V
/-- 'range m'. -/
theorem dots_range (hg : o.guard = none) (m : Operand) (t e : TypeId) (hop : o.op = Op.range t m) (ht : P.underlying t = some (.map k e)) (b : Nat) (S : Int → Int → Bool) (hm : a.eval m = .map (some b)) (h : Dots P k w b S)
    (hK : ∀ w', Rg P k w' b w.heap.size S S → w.grownBy w' none → w'.heap.size = w.heap.size + 1 → wpList P ops Q rest (a.put o.dst (.pointer (some ⟨w.heap.size, 0, none⟩))) w') :
    wpList P ops Q (o :: rest) a w := by
  obtain ⟨D, h, hs⟩ := h
  refine wpList_range_own w hg m t hop k e V.K ht unitElem b (Maps.size D) D hm h fun w' h1 h2 h3 => hK w' ⟨D, _, _, h1, hs, fun x y h => h, fun x y hw => hs.has x y hw⟩ h2 h3
/-- The step. -/
theorem dots_next (hg : o.guard = none) (it : Operand) (hop : o.op = Op.next it false) (b r : Nat) (S L : Int → Int → Bool) (hit : a.eval it = .pointer (some ⟨r, 0, none⟩)) (h : Rg P k w b r S L)
    (hDone : (∀ x y, L x y = false) → wpList P ops Q rest (a.put o.dst (.tuple #[.bool false])) w)
    (hMore : ∀ (x y : Int) (w' : World), L x y = true → Rg P k w' b r S (rS L x y) → w'.rangeLeft b r < w.rangeLeft b r → w.grownBy w' (some r) → w'.heap.size = w.heap.size →
      (Instr.entry (.pointer (some ⟨r, 0, none⟩))).run P w' = .ok (.tuple #[.agg #[.int .i64 x, .int .i64 y], .agg #[]]) w' → wpList P ops Q rest (a.put o.dst (.tuple #[.bool true, .agg #[.int .i64 x, .int .i64 y], .agg #[]])) w') :
    wpList P ops Q (o :: rest) a w := by
  obtain ⟨D, left, c, h, hs, hsub, hl⟩ := h
  refine wpList_next_ranges (α := Int × Int) (β := Unit) w hg it hop k V.K unitElem (fun p => vv p.1 p.2) (fun _ => .agg #[]) (fun key kl hk => by
    obtain ⟨x, y, _, e⟩ := V.inv key kl hk
    exact ⟨(x, y), e⟩) (fun v y hv => ⟨(), (unitElem_inv hv).1⟩) b r (Maps.size D) D left c hit h (fun _ h0 => hDone fun x y => ?_) (fun p _ kl y w' c' hkey hleft hv hat hr hlt hg1 hs1 hen => ?_)
  · cases hxy : L x y
    · rfl
    · have := hl x y (hs.bd.wf (hsub x y hxy))
      rw [h0, hxy] at this
      cases this
  · obtain ⟨x, y⟩ := p
    obtain ⟨x2, y2, hw, e1, e2⟩ := V.inv2 hkey
    obtain ⟨rfl, rfl⟩ : x = x2 ∧ y = y2 := by unfold vv at e1; simp at e1; exact e1
    have hL : L x y = true := by rw [← hl x y hw, ← e2]; exact hleft
    refine hMore x y w' hL ⟨D, _, c', hr, hs, fun u v huv => hsub u v (Bool.and_eq_true_iff.1 huv).1, fun u v huv => ?_⟩ (by rw [hr.left_eq, h.left_eq]; exact hlt) hg1 hs1 hen
    show (left (vk u v) && !(vk u v).sameKey kl) = rS L x y u v
    rw [hl u v huv, e2, V.same huv hw]
    rfl
/-- '_, ok := m[place]'. -/
theorem dots_has (hg : o.guard = none) (m x : Operand) (t e : TypeId) (hop : o.op = Op.lookup t m x true) (ht : P.underlying t = some (.map k e)) (hz : (zeroValue e).run P w = .ok (.agg #[]) w) (b : Nat) (S : Int → Int → Bool)
    (hm : a.eval m = .map (some b)) (h : Dots P k w b S) (u v : Int) (hx : a.eval x = .agg #[.int .i64 u, .int .i64 v]) (hw : wf2 u v)
    (hK : wpList P ops Q rest (a.put o.dst (.tuple #[.agg #[], .bool (S u v)])) w) :
    wpList P ops Q (o :: rest) a w := by
  obtain ⟨D, h, hs⟩ := h
  refine wpList_lookup_own_unit w hg m x t hop k e V.K ht hz b (Maps.size D) D hm h (vv u v) (vk u v) hx (V.key u v hw) ?_
  rw [hs.has u v hw]
  exact hK
/-- 'm[place] = struct{}{}'. -/
theorem dots_add (hg : o.guard = none) (m x v : Operand) (t e : TypeId) (hop : o.op = Op.mapUpdate t m x v) (ht : P.underlying t = some (.map k e)) (b : Nat) (S : Int → Int → Bool)
    (hm : a.eval m = .map (some b)) (h : Dots P k w b S) (p q : Int) (hx : a.eval x = .agg #[.int .i64 p, .int .i64 q]) (hv : a.eval v = .agg #[]) (hp : 0 ≤ p ∧ p < 100 ∧ 0 ≤ q ∧ q < 100)
    (hK : ∀ w', Dots P k w' b (aS S p q) → w.grownBy w' (some b) → wpList P ops Q rest (a.put o.dst undef) w') :
    wpList P ops Q (o :: rest) a w := by
  obtain ⟨D, h, hs⟩ := h
  have hw : wf2 p q := wf2_of (by omega) (by omega) (by omega) (by omega)
  have hsm := has_small V h hs
  refine wpList_mapUpdate_own w hg m x v t hop k e V.K ht unitElem b (Maps.size D) D hm h (by unfold maxLen; omega) (vv p q) (.agg #[]) (vk p q) hx hv (V.key p q hw) (.agg []) [] unitElem_mk fun w' h1 h2 => hK w' ⟨_, owns_tight h1, ⟨fun u v huv => ?_, fun u v huv => ?_⟩⟩ h2
  · unfold aS at huv
    rw [Bool.or_eq_true, Bool.and_eq_true, decide_eq_true_eq, decide_eq_true_eq] at huv
    rcases huv with huv | ⟨rfl, rfl⟩
    · exact hs.bd u v huv
    · omega
  · unfold aS
    by_cases e : u = p ∧ v = q
    · obtain ⟨rfl, rfl⟩ := e
      rw [has_put_same h.isMap (V.isKey hw)]
      simp
    · rw [has_put_other (fun e2 => e (V.inj huv hw e2)), hs.has u v huv]
      by_cases a1 : u = p
      · have a2 : ¬ v = q := fun a2 => e ⟨a1, a2⟩
        simp [a2]
      · simp [a1]
/-- 'delete(m, place)'. -/
theorem dots_del (hg : o.guard = none) (m x : Operand) (t e : TypeId) (hop : o.op = Op.call { callee := Callee.builtin Builtin.delete, args := #[m, x], argTypes := #[t, k] }) (ht : P.underlying t = some (.map k e)) (b : Nat) (S : Int → Int → Bool)
    (hm : a.eval m = .map (some b)) (h : Dots P k w b S) (p q : Int) (hx : a.eval x = .agg #[.int .i64 p, .int .i64 q]) (hw : wf2 p q)
    (hK : ∀ w', Dots P k w' b (rS S p q) → w.grownBy w' (some b) → wpList P ops Q rest (a.put o.dst (.tuple #[])) w') :
    wpList P ops Q (o :: rest) a w := by
  obtain ⟨D, h, hs⟩ := h
  refine wpList_delete_own w hg m x t k hop e V.K ht unitElem b (Maps.size D) D hm h (vv p q) (vk p q) hx (V.key p q hw) fun w' h1 h2 => hK w' ⟨_, owns_tight h1, ⟨fun u v huv => hs.bd u v (Bool.and_eq_true_iff.1 huv).1, fun u v huv => ?_⟩⟩ h2.grown
  unfold rS
  by_cases e : u = p ∧ v = q
  · obtain ⟨rfl, rfl⟩ := e
    rw [has_del_same]
    simp
  · rw [has_del_other (fun e2 => e (V.inj huv hw e2)), hs.has u v huv]
    by_cases a1 : u = p
    · have a2 : ¬ v = q := fun a2 => e ⟨a1, a2⟩
      simp [a2]
    · simp [a1]
/-- 'len(m)'. -/
theorem dots_len (hg : o.guard = none) (m : Operand) (t e : TypeId) (hop : o.op = Op.call { callee := Callee.builtin Builtin.len, args := #[m], argTypes := #[t] }) (ht : P.underlying t = some (.map k e)) (b W H : Nat) (S : Int → Int → Bool)
    (hm : a.eval m = .map (some b)) (h : Dots P k w b S) (hb : Bd W H S)
    (hK : wpList P ops Q rest (a.put o.dst (.int .i64 (cnt (sD W S) (W * H) : Nat))) w) :
    wpList P ops Q (o :: rest) a w := by
  obtain ⟨D, h, hs⟩ := h
  refine wpList_len_own w hg m t hop k e ht unitElem b (Maps.size D) D hm h ?_
  rw [has_size V h hs hb]
  exact hK
end
end Go.Proofs.YtmcdmacpgjkelaaDoor
