/- The texts XDuN XBase XSpA XImA XNuB XRuM joined. -/
import Derived.Test.YtbcgidgjdedkiaaDoorMtA
import Derived.Maps.RangeWalk
import Derived.WideKeyPair
import Derived.DeepKeys4
import Derived.WalkKit
import Derived.ProofKit
import Derived.OpenShut
import Derived.Deep.Draws
import Derived.Test.YtbcgidgjdedkiaaDoorRows
import Derived.Lib.Hide
import Derived.Test.YtbcgidgjdedkiaaDoorChecked
/- Chapter 7: a map that has places for keys, as a set of places: what it holds, how it is ranged over. Of no one program. -/
namespace Go.Proofs.YtbcgidgjdedkiaaDoor
open Go.ChangeShapes Go.WideShapes Go.ChangeAt Go.RowKit Go.Maps

/-- A place as a key, as a value. -/
def vk (x y : Int) : Lit := .string (keyBytes [.int .i64 x, .int .i64 y])
def vv (x y : Int) : Value := .agg #[.int .i64 x, .int .i64 y]
def wf2 (x y : Int) : Prop := (Lit.int .i64 x).wf = true ∧ (Lit.int .i64 y).wf = true
theorem wf2_of {x y : Int} (x0 : -9223372036854775808 ≤ x) (x1 : x ≤ 9223372036854775807) (y0 : -9223372036854775808 ≤ y) (y1 : y ≤ 9223372036854775807) : wf2 x y := ⟨WalkArith.wf_i64 ⟨x0, x1⟩, WalkArith.wf_i64 ⟨y0, y1⟩⟩
/-- A type of places as a key's type. -/
structure VKey (P : Program) (k : TypeId) : Prop where
  K : Keyed P k
  key : ∀ x y, wf2 x y → keyOf P k (vv x y) = some (vk x y)
  inv : ∀ key kl, keyOf P k key = some kl → ∃ x y, wf2 x y ∧ key = vv x y
section
variable {P : Program} {k : TypeId}
theorem VKey.inv2 (V : VKey P k) {key : Value} {kl : Lit} (h : keyOf P k key = some kl) : ∃ x y, wf2 x y ∧ key = vv x y ∧ kl = vk x y := by
  obtain ⟨x, y, hw, rfl⟩ := V.inv key kl h
  have := V.key x y hw
  rw [h] at this
  exact ⟨x, y, hw, rfl, Option.some.inj this⟩
theorem VKey.inj (V : VKey P k) {x y u v : Int} (h1 : wf2 x y) (h2 : wf2 u v) (h : vk x y = vk u v) : x = u ∧ y = v := by
  have e := V.K.inj (V.key x y h1) (by rw [h]; exact V.key u v h2)
  unfold vv at e
  simp at e
  exact e
theorem VKey.isKey (V : VKey P k) {x y : Int} (h : wf2 x y) : WideAt.IsKeyLit (vk x y) := V.K.key (V.key x y h)
theorem VKey.same (V : VKey P k) {x y u v : Int} (h1 : wf2 x y) (h2 : wf2 u v) : (vk x y).sameKey (vk u v) = (decide (x = u) && decide (y = v)) := by
  by_cases h : x = u ∧ y = v
  · obtain ⟨rfl, rfl⟩ := h
    rw [WideAt.sameKey_self (V.isKey h1)]
    simp
  · rw [sameKey_ne (fun e => h (V.inj h1 h2 e))]
    by_cases a : x = u
    · have : ¬ y = v := fun b => h ⟨a, b⟩
      simp [this]
    · simp [a]
/-- From the key's type alone. -/
theorem vkey_of {e : TypeId} (A : WideMaps.ArrKey P k e 2) (he : P.underlying e = some (.int .i64)) (hsz : ∃ m, P.types.size = m + 1) (K : Keyed P k) : VKey P k where
  K := K
  key := fun x y h => WideMaps.keyOf_pair A he hsz h.1 h.2
  inv := fun key kl h => by
    obtain ⟨xs, L, rfl, h1, h2⟩ := keyOf_top A.wide h
    obtain ⟨m, hm⟩ := hsz
    rw [hm] at h1
    unfold Program.keyLits at h1
    simp only [A.hu] at h1
    split at h1
    · rename_i hl
      rw [show List.range 2 = [0, 1] from rfl, List.mapM_cons, List.mapM_cons, List.mapM_nil] at h1
      obtain ⟨xs⟩ := xs
      rw [A.size] at hl
      match xs, hl with
      | [c0, c1], _ =>
        simp only [A.one, bind, pure, Option.map_eq_some_iff, Option.bind_eq_some_iff, Option.some.injEq] at h1
        obtain ⟨_, ⟨L0, g0, _, ⟨L1, g1, _, rfl, rfl⟩, rfl⟩, _⟩ := h1
        have one : ∀ (c : Value) (L0 : List Lit), P.keyLits (m + 1) e [c] = some L0 → ∃ a, c = .int .i64 a ∧ (Lit.int .i64 a).wf = true := by
          intro c L0 g
          unfold Program.keyLits at g
          rw [he] at g
          cases c <;> simp at g
          obtain ⟨⟨rfl, hw⟩, _⟩ := g
          exact ⟨_, rfl, hw⟩
        obtain ⟨a, rfl, ha⟩ := one c0 L0 (by simpa using g0)
        obtain ⟨b, rfl, hb⟩ := one c1 L1 (by simpa using g1)
        exact ⟨a, b, ⟨ha, hb⟩, rfl⟩
    · cases h1

/-! ### sets -/
/-- What a map's datum holds. -/
structure Has (D : DataW Unit) (S : Int → Int → Bool) : Prop where
  bd : Bd 100 100 S
  has : ∀ x y, wf2 x y → Maps.has D (vk x y) = S x y
/-- Block b is a map that has just the places of the set S. -/
def Dots (P : Program) (k : TypeId) (w : World) (b : Nat) (S : Int → Int → Bool) : Prop := ∃ D : DataW Unit, w.ownsMap P k unitElem b (Maps.size D) D ∧ Has D S
theorem Bd.wf {S : Int → Int → Bool} (h : Bd 100 100 S) {x y : Int} (hs : S x y = true) : wf2 x y := by
  have := h x y hs
  exact wf2_of (by omega) (by omega) (by omega) (by omega)
variable {w : World} {b n : Nat} {D : DataW Unit} {S T : Int → Int → Bool}
theorem owns_tight (h : w.ownsMap P k unitElem b n D) : w.ownsMap P k unitElem b (Maps.size D) D := by
  obtain ⟨es, clock, hb, F, hs, rfl⟩ := h
  exact ⟨es, clock, hb, F, by simp [Maps.size, length_sorted], rfl⟩
/-- The keys of a map's datum. -/
def keysOf : DataW Unit → List Lit
  | .map es => es.map (·.1)
  | _ => []
theorem keysOf_len (D : DataW Unit) : (keysOf D).length = Maps.size D := by cases D <;> simp [keysOf, Maps.size]
theorem owns_keys (V : VKey P k) (h : w.ownsMap P k unitElem b n D) : (keysOf D).Nodup ∧ ∀ kl, kl ∈ keysOf D ↔ Maps.has D kl = true ∧ ∃ x y, wf2 x y ∧ kl = vk x y := by
  have he := h.entries V.K
  obtain ⟨es, clock, hb, F, hs, rfl⟩ := h
  obtain ⟨es2, e2, hpw, hkey⟩ := he
  injection e2 with e2
  refine ⟨?_, fun kl => ?_⟩
  · show List.Pairwise (· ≠ ·) (((es.toList.map (WideElems.rg P k unitElem)).foldr DataW.insert []).map (·.1))
    rw [List.pairwise_map, e2]
    exact hpw
  · show kl ∈ (((es.toList.map (WideElems.rg P k unitElem)).foldr DataW.insert []).map (·.1)) ↔ _
    constructor
    · intro hm
      obtain ⟨p, hp, rfl⟩ := List.mem_map.1 hm
      refine ⟨List.any_eq_true.2 ⟨p, hp, WideAt.sameKey_self (hkey p (by rw [← e2]; exact hp))⟩, ?_⟩
      obtain ⟨x, hx, rfl⟩ := List.mem_map.1 (mem_sorted.1 hp)
      obtain ⟨y, hy⟩ := F.reads x hx
      obtain ⟨a, c, hw, _, e⟩ := V.inv2 (WideElems.rd_key hy)
      exact ⟨a, c, hw, by rw [WideElems.rg_of hy]; exact e⟩
    · rintro ⟨hh, _⟩
      obtain ⟨p, hp, hk⟩ := List.any_eq_true.1 hh
      exact List.mem_map.2 ⟨p, hp, WideAt.sameKey_eq hk⟩
/-- How many there are. -/
theorem has_size (V : VKey P k) (h : w.ownsMap P k unitElem b n D) (hs : Has D S) {W H : Nat} (hb : Bd W H S) : Maps.size D = cnt (sD W S) (W * H) := by
  obtain ⟨hnd, hmem⟩ := owns_keys V h
  have hW : ∀ x y, S x y = true → wf2 x y := fun x y hxy => hs.bd.wf hxy
  have hnd2 : (((List.range (W * H)).filter (sD W S)).map fun i => vk ((i % W : Nat) : Int) ((i / W : Nat) : Int)).Nodup := by
    have hr : ((List.range (W * H)).filter (sD W S)).Nodup := List.nodup_range.filter _
    refine List.pairwise_map.2 (hr.imp_of_mem (fun {i j} hi hj hne e => hne ?_))
    have hi2 := List.mem_filter.1 hi
    have hj2 := List.mem_filter.1 hj
    obtain ⟨e1, e3⟩ := V.inj (hW _ _ hi2.2) (hW _ _ hj2.2) e
    obtain ⟨_, _, a⟩ := place_of (List.mem_range.1 hi2.1)
    obtain ⟨_, _, c⟩ := place_of (List.mem_range.1 hj2.1)
    rw [← a, ← c, Int.ofNat_inj.1 e1, Int.ofNat_inj.1 e3]
  have hperm : (keysOf D).Perm (((List.range (W * H)).filter (sD W S)).map fun i => vk ((i % W : Nat) : Int) ((i / W : Nat) : Int)) := by
    refine (List.perm_ext_iff_of_nodup hnd hnd2).2 fun kl => ?_
    rw [hmem]
    constructor
    · rintro ⟨hh, x, y, hw, rfl⟩
      rw [hs.has x y hw] at hh
      have hbb := hb x y hh
      obtain ⟨a, rfl⟩ := Int.eq_ofNat_of_zero_le hbb.1
      obtain ⟨c, rfl⟩ := Int.eq_ofNat_of_zero_le hbb.2.2.1
      have ha : a < W := by omega
      have hc : c < H := by omega
      refine List.mem_map.2 ⟨c * W + a, List.mem_filter.2 ⟨List.mem_range.2 (place_lt ha hc), ?_⟩, ?_⟩
      · unfold sD
        rw [place_x ha, place_y ha]
        exact hh
      · rw [place_x ha, place_y ha]
    · intro hm
      obtain ⟨i, hi, rfl⟩ := List.mem_map.1 hm
      have hi2 := List.mem_filter.1 hi
      exact ⟨by rw [hs.has _ _ (hW _ _ hi2.2)]; exact hi2.2, _, _, hW _ _ hi2.2, rfl⟩
  rw [← keysOf_len, hperm.length_eq, List.length_map, cnt, List.countP_eq_length_filter]
theorem has_small (V : VKey P k) (h : w.ownsMap P k unitElem b n D) (hs : Has D S) : Maps.size D ≤ 10000 := by
  rw [has_size V h hs hs.bd]
  exact cnt_le _ _

/-! ### carried -/
theorem Dots.lt (h : Dots P k w b S) : b < w.heap.size := let ⟨_, h, _⟩ := h; h.lt
theorem Dots.bd (h : Dots P k w b S) : Bd 100 100 S := let ⟨_, _, h⟩ := h; h.bd
theorem Dots.kept {w' : World} {row : Option Nat} (h : Dots P k w b S) (hg : w.grownBy w' row) (hne : some b ≠ row) : Dots P k w' b S := by
  obtain ⟨D, h, hs⟩ := h
  exact ⟨D, h.kept hg hne, hs⟩
theorem grown_of_below {B : Nat} {w w' : World} (h : Below B w w') (hB : w.heap.size ≤ B) : w.grownBy w' none := ⟨h.os, h.tape, h.output, h.size, fun i hi _ => h.block i (by omega)⟩
theorem Dots.below {w' : World} (h : Dots P k w b S) (hb : Below w.heap.size w w') : Dots P k w' b S := h.kept (grown_of_below hb (Nat.le_refl _)) (by simp)
theorem Dots.below2 {w' : World} {B : Nat} (h : Dots P k w b S) (hb : Below B w w') (hB : b < B) : Dots P k w' b S := by
  obtain ⟨D, ⟨es, clock, hh, r⟩, hs⟩ := h
  exact ⟨D, ⟨es, clock, (hb.block b hB).trans hh, r⟩, hs⟩
theorem Dots.alloc (h : Dots P k w b S) (o : Obj) : Dots P k (w.alloc o) b S := h.kept (World.grownBy_alloc w o none) (by simp)
theorem Dots.drew (h : Dots P k w b S) : Dots P k w.drew b S := h
theorem Dots.drewN (h : Dots P k w b S) (n : Nat) : Dots P k (w.drewN n) b S := h
theorem Dots.setCell (h : Dots P k w b S) {a : Addr} (ha : b ≠ a.block) (u : Value) : Dots P k (w.setCell a u) b S := by
  obtain ⟨D, h, hs⟩ := h
  exact ⟨D, h.setCell ha u, hs⟩
theorem Dots.congr (h : Dots P k w b S) (e : ∀ x y, S x y = T x y) : Dots P k w b T := by
  have : S = T := by funext x y; exact e x y
  rw [← this]
  exact h
theorem Dots.made (w : World) : Dots P k (w.alloc (.map #[] 0)) w.heap.size (fun _ _ => false) :=
  ⟨.map [], World.ownsMap_made w P k _, ⟨fun _ _ h => (by cases h), fun _ _ _ => rfl⟩⟩
theorem Dots.size (V : VKey P k) (h : Dots P k w b S) {W H : Nat} (hb : Bd W H S) {t e : TypeId} (ht : P.underlying t = some (.map k e)) (ty : TypeId) :
    (Builtin.len_ #[t] ty #[.map (some b)]).run P w = .ok (.int .i64 (cnt (sD W S) (W * H) : Nat)) w := by
  obtain ⟨D, h, hs⟩ := h
  rw [h.len ht ty, has_size V h hs hb]

/-! ### a set ranged over -/
/-- Block r is an iterator over the set S in block b, of which the places of L are still to come. -/
def Rg (P : Program) (k : TypeId) (w : World) (b r : Nat) (S L : Int → Int → Bool) : Prop :=
  ∃ (D : DataW Unit) (left : Lit → Bool) (c : Nat), w.ranges P k unitElem b r (Maps.size D) D left c ∧ Has D S ∧ (∀ x y, L x y = true → S x y = true) ∧ ∀ x y, wf2 x y → left (vk x y) = L x y
variable {L : Int → Int → Bool} {r : Nat}
theorem Rg.dots (h : Rg P k w b r S L) : Dots P k w b S := by
  obtain ⟨D, left, c, h, hs, _, _⟩ := h
  exact ⟨D, h.owns, hs⟩
theorem Rg.lt (h : Rg P k w b r S L) : r < w.heap.size := by
  obtain ⟨D, left, c, h, hs, _, _⟩ := h
  exact h.lt
theorem Rg.ne (h : Rg P k w b r S L) : r ≠ b := by
  obtain ⟨D, left, c, h, hs, _, _⟩ := h
  exact h.ne
theorem Rg.sub (h : Rg P k w b r S L) {x y : Int} (hl : L x y = true) : S x y = true := by
  obtain ⟨D, left, c, h, hs, h2, _⟩ := h
  exact h2 x y hl
theorem Rg.kept {w' : World} {row : Option Nat} (h : Rg P k w b r S L) (hg : w.grownBy w' row) (hb : some b ≠ row) (hr : some r ≠ row) : Rg P k w' b r S L := by
  obtain ⟨D, left, c, h, rest⟩ := h
  exact ⟨D, left, c, h.kept hg hb hr, rest⟩
theorem Rg.left {w' : World} {row : Option Nat} (h : Rg P k w b r S L) (hg : w.grownBy w' row) (hb : some b ≠ row) (hr : some r ≠ row) : w'.rangeLeft b r = w.rangeLeft b r := by
  obtain ⟨D, left, c, h, rest⟩ := h
  rw [h.left_eq, (h.kept hg hb hr).left_eq]
theorem Rg.alloc (h : Rg P k w b r S L) (o : Obj) : Rg P k (w.alloc o) b r S L := h.kept (World.grownBy_alloc w o none) (by simp) (by simp)
theorem Rg.below {w' : World} (h : Rg P k w b r S L) (hb : Below w.heap.size w w') : Rg P k w' b r S L := h.kept (grown_of_below hb (Nat.le_refl _)) (by simp) (by simp)
end

/-! ### at the operations -/
section
variable {P : Program} {k : TypeId} (V : VKey P k) (w : World) {ops : Array Oper} {rest : List Oper} {o : Oper} {a : Act} {Q : Exit → Act → World → Prop}
include V
/-- 'range m'. -/
theorem dots_range (hg : o.guard = none) (m : Operand) (t e : TypeId) (hop : o.op = Op.range t m) (ht : P.underlying t = some (.map k e)) (b : Nat) (S : Int → Int → Bool) (hm : a.eval m = .map (some b)) (h : Dots P k w b S)
    (hK : ∀ w', Rg P k w' b w.heap.size S S → w.grownBy w' none → w'.heap.size = w.heap.size + 1 → wpList P ops Q rest (a.put o.dst (.pointer (some ⟨w.heap.size, 0, none⟩))) w') :
    wpList P ops Q (o :: rest) a w := by
  obtain ⟨D, h, hs⟩ := h
  refine wpList_range_own w hg m t hop k e V.K ht unitElem b (Maps.size D) D hm h fun w' h1 h2 h3 => hK w' ⟨D, _, _, h1, hs, fun x y h => h, fun x y hw => hs.has x y hw⟩ h2 h3
/-- The step. -/
theorem dots_next (hg : o.guard = none) (it : Operand) (hop : o.op = Op.next it false) (b r : Nat) (S L : Int → Int → Bool) (hit : a.eval it = .pointer (some ⟨r, 0, none⟩)) (h : Rg P k w b r S L)
    (hDone : (∀ x y, L x y = false) → wpList P ops Q rest (a.put o.dst (.tuple #[.bool false])) w)
    (hMore : ∀ (x y : Int) (w' : World), L x y = true → Rg P k w' b r S (rS L x y) → w'.rangeLeft b r < w.rangeLeft b r → w.grownBy w' (some r) → w'.heap.size = w.heap.size →
      (Instr.entry (.pointer (some ⟨r, 0, none⟩))).run P w' = .ok (.tuple #[.agg #[.int .i64 x, .int .i64 y], .agg #[]]) w' → wpList P ops Q rest (a.put o.dst (.tuple #[.bool true, .agg #[.int .i64 x, .int .i64 y], .agg #[]])) w') :
    wpList P ops Q (o :: rest) a w := by
  obtain ⟨D, left, c, h, hs, hsub, hl⟩ := h
  refine wpList_next_ranges (α := Int × Int) (β := Unit) w hg it hop k V.K unitElem (fun p => vv p.1 p.2) (fun _ => .agg #[]) (fun key kl hk => by
    obtain ⟨x, y, _, e⟩ := V.inv key kl hk
    exact ⟨(x, y), e⟩) (fun v y hv => ⟨(), (unitElem_inv hv).1⟩) b r (Maps.size D) D left c hit h (fun _ h0 => hDone fun x y => ?_) (fun p _ kl y w' c' hkey hleft hv hat hr hlt hg1 hs1 hen => ?_)
  · cases hxy : L x y
    · rfl
    · have := hl x y (hs.bd.wf (hsub x y hxy))
      rw [h0, hxy] at this
      cases this
  · obtain ⟨x, y⟩ := p
    obtain ⟨x2, y2, hw, e1, e2⟩ := V.inv2 hkey
    obtain ⟨rfl, rfl⟩ : x = x2 ∧ y = y2 := by unfold vv at e1; simp at e1; exact e1
    have hL : L x y = true := by rw [← hl x y hw, ← e2]; exact hleft
    refine hMore x y w' hL ⟨D, _, c', hr, hs, fun u v huv => hsub u v (Bool.and_eq_true_iff.1 huv).1, fun u v huv => ?_⟩ (by rw [hr.left_eq, h.left_eq]; exact hlt) hg1 hs1 hen
    show (left (vk u v) && !(vk u v).sameKey kl) = rS L x y u v
    rw [hl u v huv, e2, V.same huv hw]
    rfl
/-- '_, ok := m[place]'. -/
theorem dots_has (hg : o.guard = none) (m x : Operand) (t e : TypeId) (hop : o.op = Op.lookup t m x true) (ht : P.underlying t = some (.map k e)) (hz : (zeroValue e).run P w = .ok (.agg #[]) w) (b : Nat) (S : Int → Int → Bool)
    (hm : a.eval m = .map (some b)) (h : Dots P k w b S) (u v : Int) (hx : a.eval x = .agg #[.int .i64 u, .int .i64 v]) (hw : wf2 u v)
    (hK : wpList P ops Q rest (a.put o.dst (.tuple #[.agg #[], .bool (S u v)])) w) :
    wpList P ops Q (o :: rest) a w := by
  obtain ⟨D, h, hs⟩ := h
  refine wpList_lookup_own_unit w hg m x t hop k e V.K ht hz b (Maps.size D) D hm h (vv u v) (vk u v) hx (V.key u v hw) ?_
  rw [hs.has u v hw]
  exact hK
/-- 'm[place] = struct{}{}'. -/
theorem dots_add (hg : o.guard = none) (m x v : Operand) (t e : TypeId) (hop : o.op = Op.mapUpdate t m x v) (ht : P.underlying t = some (.map k e)) (b : Nat) (S : Int → Int → Bool)
    (hm : a.eval m = .map (some b)) (h : Dots P k w b S) (p q : Int) (hx : a.eval x = .agg #[.int .i64 p, .int .i64 q]) (hv : a.eval v = .agg #[]) (hp : 0 ≤ p ∧ p < 100 ∧ 0 ≤ q ∧ q < 100)
    (hK : ∀ w', Dots P k w' b (aS S p q) → w.grownBy w' (some b) → wpList P ops Q rest (a.put o.dst undef) w') :
    wpList P ops Q (o :: rest) a w := by
  obtain ⟨D, h, hs⟩ := h
  have hw : wf2 p q := wf2_of (by omega) (by omega) (by omega) (by omega)
  have hsm := has_small V h hs
  refine wpList_mapUpdate_own w hg m x v t hop k e V.K ht unitElem b (Maps.size D) D hm h (by unfold maxLen; omega) (vv p q) (.agg #[]) (vk p q) hx hv (V.key p q hw) (.agg []) [] unitElem_mk fun w' h1 h2 => hK w' ⟨_, owns_tight h1, ⟨fun u v huv => ?_, fun u v huv => ?_⟩⟩ h2
  · unfold aS at huv
    rw [Bool.or_eq_true, Bool.and_eq_true, decide_eq_true_eq, decide_eq_true_eq] at huv
    rcases huv with huv | ⟨rfl, rfl⟩
    · exact hs.bd u v huv
    · omega
  · unfold aS
    by_cases e : u = p ∧ v = q
    · obtain ⟨rfl, rfl⟩ := e
      rw [has_put_same h.isMap (V.isKey hw)]
      simp
    · rw [has_put_other (fun e2 => e (V.inj huv hw e2)), hs.has u v huv]
      by_cases a1 : u = p
      · have a2 : ¬ v = q := fun a2 => e ⟨a1, a2⟩
        simp [a2]
      · simp [a1]
/-- 'delete(m, place)'. -/
theorem dots_del (hg : o.guard = none) (m x : Operand) (t e : TypeId) (hop : o.op = Op.call { callee := Callee.builtin Builtin.delete, args := #[m, x], argTypes := #[t, k] }) (ht : P.underlying t = some (.map k e)) (b : Nat) (S : Int → Int → Bool)
    (hm : a.eval m = .map (some b)) (h : Dots P k w b S) (p q : Int) (hx : a.eval x = .agg #[.int .i64 p, .int .i64 q]) (hw : wf2 p q)
    (hK : ∀ w', Dots P k w' b (rS S p q) → w.grownBy w' (some b) → wpList P ops Q rest (a.put o.dst (.tuple #[])) w') :
    wpList P ops Q (o :: rest) a w := by
  obtain ⟨D, h, hs⟩ := h
  refine wpList_delete_own w hg m x t k hop e V.K ht unitElem b (Maps.size D) D hm h (vv p q) (vk p q) hx (V.key p q hw) fun w' h1 h2 => hK w' ⟨_, owns_tight h1, ⟨fun u v huv => hs.bd u v (Bool.and_eq_true_iff.1 huv).1, fun u v huv => ?_⟩⟩ h2.grown
  unfold rS
  by_cases e : u = p ∧ v = q
  · obtain ⟨rfl, rfl⟩ := e
    rw [has_del_same]
    simp
  · rw [has_del_other (fun e2 => e (V.inj huv hw e2)), hs.has u v huv]
    by_cases a1 : u = p
    · have a2 : ¬ v = q := fun a2 => e ⟨a1, a2⟩
      simp [a2]
    · simp [a1]
/-- 'len(m)'. -/
theorem dots_len (hg : o.guard = none) (m : Operand) (t e : TypeId) (hop : o.op = Op.call { callee := Callee.builtin Builtin.len, args := #[m], argTypes := #[t] }) (ht : P.underlying t = some (.map k e)) (b W H : Nat) (S : Int → Int → Bool)
    (hm : a.eval m = .map (some b)) (h : Dots P k w b S) (hb : Bd W H S)
    (hK : wpList P ops Q rest (a.put o.dst (.int .i64 (cnt (sD W S) (W * H) : Nat))) w) :
    wpList P ops Q (o :: rest) a w := by
  obtain ⟨D, h, hs⟩ := h
  refine wpList_len_own w hg m t hop k e ht unitElem b (Maps.size D) D hm h ?_
  rw [has_size V h hs hb]
  exact hK
end
end Go.Proofs.YtbcgidgjdedkiaaDoor
/- What every law's last step shares: the call returns true, nothing that was there has turned, so the arguments read as before. -/
namespace Go.Proofs.YtbcgidgjdedkiaaDoor
open Go.ChangeShapes Go.WideShapes Go.ChangeAt Go.RowKit

theorem Tryd.own : ownKnob Tryd.prog.godebug = none := by kernel_rfl
theorem Tryd.laidOut : laidOutB Tryd.prog = true := by kernel_rfl

section
variable {H : Type} {enc : TypeId × Value → H} {P : Program}
theorem all_stay (hl : laidOutB P = true) {W W' : World} (hb : Below W.heap.size W W') :
    ∀ {ts : List TypeId} {vs : List Value} {ds : List (DataW H)} {ps : List MemPlace}, (∀ t ∈ ts, P.readableRec t = true ∧ t < P.types.size) →
      DataW.TrodAll enc P W 0 (fun _ => true) true ts vs ds ps → (∀ x ∈ ps, x.block < W.heap.size) →
      DataW.TrodAll enc P W' 0 (fun b => decide (b < W.heap.size)) true ts vs ds ps
  | [], _, _, _, _, h, _ => by
    obtain ⟨rfl, rfl, rfl⟩ := trodAll_nil h
    exact trodAll_mk0
  | t :: ts, _, _, _, ht, h, hlt => by
    obtain ⟨v, vs1, d, ds1, a, b, rfl, rfl, rfl, h1, h2⟩ := trodAll_cons h
    refine trodAll_cons_mk (Below.trod hl (ht t (by simp)).1 (ht t (by simp)).2 h1 hb fun x hx => hlt x (by simp [hx])) ?_
    exact all_stay hl hb (fun t' h' => ht t' (by simp [h'])) h2 fun x hx => hlt x (by simp [hx])

theorem law_post {f : Func} {s : ChangeSpec} {W W' : World} {args : Array Value} {ds gs : List (DataW H)} {before : List MemPlace} {tb : TypeId}
    (hl : laidOutB P = true) (hr : f.resultTypes = #[tb]) (htb : P.underlying tb = some .bool) (hp : ∀ t ∈ f.params.toList, P.readableRec t = true ∧ t < P.types.size)
    (hW : DataW.Whole enc P f.params.toList s.vars false W args.toList ds gs before)
    (hA : DataW.TrodAll enc P W 0 (fun _ => true) true f.params.toList args.toList ds before)
    (hs1 : (s.fn H (ds ++ gs)).results = [.lit (.bool true)]) (hs2 : (s.fn H (ds ++ gs)).args = ds)
    (hv : DataW.TrodVars enc P W' (fun b => decide (b < W.heap.size)) s.vars (s.fn H (ds ++ gs)).vars [])
    (hb : Below W.heap.size W W') : s.post enc P f false true false false W args (.bool true) W' := by
  refine ⟨ds, gs, before, [], before, [], hW, ?_, ?_, hv, ?_, fun h => by cases h⟩
  · rw [hs1, hr]
    exact trodAll_mk1 (shut_bool htb true)
  · rw [hs2]
    exact all_stay hl hb hp hA fun x hx => hW.lt x hx
  · exact World.keptBut_mono (fun p hp' => ⟨hp', by simp [hp']⟩) (hb.frame (· ∈ before))
end
end Go.Proofs.YtbcgidgjdedkiaaDoor
/- Contracts of the specification's functions of chapter 1: bounds, numbers of places, the place of a number. -/
namespace Go.Proofs.YtbcgidgjdedkiaaDoor
open Go.RowKit

theorem in_yes (n lo hi : Int) (w : World) (h1 : lo ≤ n) (h2 : n ≤ hi) :
    Calls Tryd.prog 75 #[.int .i64 n, .int .i64 lo, .int .i64 hi] w fun e w' => e = .returned (.bool true) ∧ w = w' := by
  go_enter Tryd.func75, Tryd.ntmps75
  go_wp2
  go_ret
  exact ⟨rfl, rfl⟩
theorem in_no (n lo hi : Int) (w : World) (h : n < lo ∨ hi < n) :
    Calls Tryd.prog 75 #[.int .i64 n, .int .i64 lo, .int .i64 hi] w fun e w' => e = .returned (.bool false) ∧ w = w' := by
  rcases Int.lt_or_le n lo with h1 | h1
  · go_enter Tryd.func75, Tryd.ntmps75
    go_wp2
    go_ret
    exact ⟨rfl, rfl⟩
  · have h2 : decide (n ≤ hi) = false := by simp; omega
    go_enter Tryd.func75, Tryd.ntmps75
    go_wp2
    go_ret
    exact ⟨rfl, rfl⟩

end Go.Proofs.YtbcgidgjdedkiaaDoor
/- Contracts of the program's functions of chapter 1: bounds, rules, the search for a last place. -/
namespace Go.Proofs.YtbcgidgjdedkiaaDoor
open Go.RowKit

theorem within_yes (n lo hi : Int) (w : World) (h1 : lo ≤ n) (h2 : n ≤ hi) :
    Calls Tryd.prog 95 #[.int .i64 n, .int .i64 lo, .int .i64 hi] w fun e w' => e = .returned (.bool true) ∧ w = w' := by
  go_enter Tryd.func95, Tryd.ntmps95
  go_wp2
  go_ret
  exact ⟨rfl, rfl⟩
theorem within_no (n lo hi : Int) (w : World) (h : n < lo ∨ hi < n) :
    Calls Tryd.prog 95 #[.int .i64 n, .int .i64 lo, .int .i64 hi] w fun e w' => e = .returned (.bool false) ∧ w = w' := by
  rcases Int.lt_or_le n lo with h1 | h1
  · go_enter Tryd.func95, Tryd.ntmps95
    go_wp2
    go_ret
    exact ⟨rfl, rfl⟩
  · have h2 : decide (n ≤ hi) = false := by simp; omega
    go_enter Tryd.func95, Tryd.ntmps95
    go_wp2
    go_ret
    exact ⟨rfl, rfl⟩


end Go.Proofs.YtbcgidgjdedkiaaDoor
/- Plain arithmetic, 2: centred numbers, numbers of places below 0, roots. -/
namespace Go.Proofs.YtbcgidgjdedkiaaDoor

/-- The centred number of a place. -/
def cen (s k : Int) : Int := s * k * (k - 1) / 2 + 1

theorem cen_twice (s k : Int) : 2 * cen s k = s * (k * (k - 1)) + 2 := by
  have h2 := even_pr k
  have h3 : k * (k - 1) = 2 * (k * (k - 1) / 2) := by omega
  have h4 : s * k * (k - 1) = 2 * (s * (k * (k - 1) / 2)) := by
    generalize k * (k - 1) / 2 = q at h3
    grind
  have h5 : s * (k * (k - 1)) = s * k * (k - 1) := by grind
  unfold cen
  omega
theorem cen_succ (s k : Int) : cen s (k + 1) = cen s k + s * k := by
  have h1 := cen_twice s k
  have h2 := cen_twice s (k + 1)
  grind
theorem cen_one (s : Int) : cen s 1 = 1 := by simp [cen]
theorem cen_lt (s : Int) (hs : 3 ≤ s) (a : Int) (ha : 1 ≤ a) (d : Nat) : cen s a < cen s (a + d + 1) := by
  induction d with
  | zero =>
    have h1 := cen_succ s a
    have h2 := Int.mul_pos (a := s) (b := a) (by omega) (by omega)
    simp
    omega
  | succ d ih =>
    have h1 := cen_succ s (a + d + 1)
    have h2 := Int.mul_pos (a := s) (b := a + d + 1) (by omega) (by omega)
    have e : a + ((d + 1 : Nat) : Int) + 1 = a + d + 1 + 1 := by omega
    rw [e]
    omega
theorem cen_mono (s : Int) (hs : 3 ≤ s) {a b : Int} (ha : 1 ≤ a) (h : a ≤ b) : cen s a ≤ cen s b := by
  rcases Int.lt_or_eq_of_le h with h | h
  · have := cen_lt s hs a ha (b - a - 1).toNat
    have e : a + ((b - a - 1).toNat : Int) + 1 = b := by omega
    rw [e] at this
    omega
  · rw [h]; exact Int.le_refl _

structure CenBds (s k : Int) : Prop where
  a0 : 0 ≤ s * k
  a1 : s * k ≤ 72000000
  b0 : 0 ≤ s * k * (k - 1)
  b1 : s * k * (k - 1) ≤ 216000000000000
theorem cen_bds (s k : Int) (h1 : 3 ≤ s) (h2 : s ≤ 24) (h3 : 0 ≤ k) (h4 : k ≤ 3000000) : CenBds s k := by
  have e1 := Int.mul_nonneg (a := s) (b := k) (by omega) h3
  have e2 := Int.mul_nonneg (a := s) (b := 3000000 - k) (by omega) (by omega)
  have e3 := pr_nn k
  have e4 := sq_le k 3000000 (by omega) h4
  have e5 := Int.mul_nonneg (a := s) (b := k * (k - 1)) (by omega) e3
  have f0 : k * (k - 1) = k * k - k := by grind
  have e6 := Int.mul_nonneg (a := s) (b := 9000000000000 - k * (k - 1)) (by omega) (by omega)
  have f2 : s * (3000000 - k) = 3000000 * s - s * k := by grind
  have f5 : s * (k * (k - 1)) = s * k * (k - 1) := by grind
  have f6 : s * (9000000000000 - k * (k - 1)) = 9000000000000 * s - s * k * (k - 1) := by grind
  constructor <;> omega

def IsCpl (s n k : Int) : Prop := 1 ≤ k ∧ cen s k ≤ n ∧ n < cen s (k + 1)
theorem cpl_ex (s : Int) (hs : 3 ≤ s) (n : Nat) : ∃ k, IsCpl s ((n : Int) + 1) k := by
  induction n with
  | zero =>
    refine ⟨1, by omega, by simp [cen_one], ?_⟩
    have := cen_succ s 1
    rw [cen_one] at this
    omega
  | succ n ih =>
    obtain ⟨k, h0, h1, h2⟩ := ih
    by_cases h : cen s (k + 1) ≤ ((n + 1 : Nat) : Int) + 1
    · refine ⟨k + 1, by omega, h, ?_⟩
      have := cen_lt s hs (k + 1) (by omega) 0
      simp at this
      omega
    · exact ⟨k, h0, by omega, by omega⟩
/-- The greatest place of at least 1 whose centred number is no greater; for 0 it is 0. -/
noncomputable def cpl (s n : Int) : Int := if n = 0 then 0 else Classical.epsilon (IsCpl s n)
theorem cpl_is (s n : Int) (hs : 3 ≤ s) (hn : 1 ≤ n) : IsCpl s n (cpl s n) := by
  have e : n = ((n - 1).toNat : Int) + 1 := by omega
  unfold cpl
  rw [if_neg (by omega)]
  rw [e]
  exact Classical.epsilon_spec (cpl_ex s hs _)
theorem cpl_zero (s : Int) : cpl s 0 = 0 := by simp [cpl]
theorem cpl_nn (s n : Int) (hs : 3 ≤ s) (hn : 0 ≤ n) : 0 ≤ cpl s n := by
  by_cases h : n = 0
  · rw [h, cpl_zero]; omega
  · have := (cpl_is s n hs (by omega)).1
    omega
theorem cfits_iff (s n k : Int) (hs : 3 ≤ s) (hn : 0 ≤ n) (hk : 1 ≤ k) : cen s k ≤ n ↔ k ≤ cpl s n := by
  by_cases h0 : n = 0
  · rw [h0, cpl_zero]
    have := cen_mono s hs (a := 1) (b := k) (by omega) hk
    rw [cen_one] at this
    omega
  · obtain ⟨c0, c1, c2⟩ := cpl_is s n hs (by omega)
    constructor
    · intro h
      rcases Int.lt_or_le (cpl s n) k with hlt | hle
      · have := cen_mono s hs (a := cpl s n + 1) (b := k) (by omega) (by omega)
        omega
      · exact hle
    · intro h
      have := cen_mono s hs hk h
      omega
theorem cpl_le (s n : Int) (hs : 3 ≤ s) (hn : 0 ≤ n) (h : n ≤ 1000000000000) : cpl s n ≤ 1000000 := by
  rcases Int.lt_or_le 1000000 (cpl s n) with hlt | hle
  · have h1 := (cfits_iff s n 1000001 hs hn (by omega)).2 (by omega)
    have h2 := cen_twice s 1000001
    have h3 := Int.mul_le_mul_of_nonneg_right (a := 3) (b := s) (c := 1000001 * (1000001 - 1)) hs (by omega)
    omega
  · exact hle

/-! ### places below 0 -/
theorem neg_twice (s k : Int) : 2 * num s (-k) = (s - 2) * k * k + (s - 4) * k := by
  have := num_twice s (-k)
  grind
theorem neg_succ (s k : Int) : num s (-(k + 1)) = num s (-k) + (s - 2) * k + (s - 3) := by
  have h1 := neg_twice s k
  have h2 := neg_twice s (k + 1)
  grind
theorem neg_le (s : Int) (hs : 3 ≤ s) (a : Int) (ha : 0 ≤ a) (d : Nat) : num s (-a) ≤ num s (-(a + d)) := by
  induction d with
  | zero => simp
  | succ d ih =>
    have h1 := neg_succ s (a + d)
    have h2 := Int.mul_nonneg (a := s - 2) (b := a + d) (by omega) (by omega)
    have e : a + ((d + 1 : Nat) : Int) = a + d + 1 := by omega
    rw [e]
    omega
theorem neg_mono (s : Int) (hs : 3 ≤ s) {a b : Int} (ha : 0 ≤ a) (h : a ≤ b) : num s (-a) ≤ num s (-b) := by
  have := neg_le s hs a ha (b - a).toNat
  have e : a + ((b - a).toNat : Int) = b := by omega
  rwa [e] at this
theorem neg_lt (s : Int) (hs : 3 ≤ s) (k : Int) (hk : 1 ≤ k) : num s (-k) < num s (-(k + 1)) := by
  have h1 := neg_succ s k
  have h2 := Int.mul_pos (a := s - 2) (b := k) (by omega) (by omega)
  omega
/-- the number of -k is at least k (k - 1) / 2 -/
theorem neg_ge (s k : Int) (hs : 3 ≤ s) : k * (k - 1) ≤ 2 * num s (-k) := by
  have h1 := neg_twice s k
  have h2 := Int.mul_nonneg (a := s - 3) (b := k * (k + 1)) (by omega) (pr_nn' k)
  have h3 : (s - 2) * k * k + (s - 4) * k = (s - 3) * (k * (k + 1)) + k * (k - 1) := by grind
  omega

def IsWl (s n k : Int) : Prop := 0 ≤ k ∧ num s (-k) ≤ n ∧ n < num s (-(k + 1))
theorem wl_ex (s : Int) (hs : 3 ≤ s) (n : Nat) : ∃ k, IsWl s n k := by
  induction n with
  | zero =>
    by_cases h : s = 3
    · refine ⟨1, by omega, ?_, ?_⟩
      · have := neg_twice s 1
        subst h
        simp at this ⊢
        omega
      · have := neg_twice s 2
        subst h
        simp at this ⊢
        omega
    · refine ⟨0, by omega, by simp [num_zero], ?_⟩
      have := neg_twice s 1
      simp at this ⊢
      omega
  | succ n ih =>
    obtain ⟨k, h0, h1, h2⟩ := ih
    by_cases h : num s (-(k + 1)) ≤ ((n + 1 : Nat) : Int)
    · exact ⟨k + 1, by omega, h, by have := neg_lt s hs (k + 1) (by omega); omega⟩
    · exact ⟨k, h0, by omega, by omega⟩
noncomputable def wl (s n : Int) : Int := Classical.epsilon (IsWl s n)
theorem wl_is (s n : Int) (hs : 3 ≤ s) (hn : 0 ≤ n) : IsWl s n (wl s n) := by
  obtain ⟨m, rfl⟩ := Int.eq_ofNat_of_zero_le hn
  exact Classical.epsilon_spec (wl_ex s hs m)
theorem wfits_iff (s n k : Int) (hs : 3 ≤ s) (hn : 0 ≤ n) (hk : 0 ≤ k) : num s (-k) ≤ n ↔ k ≤ wl s n := by
  obtain ⟨h0, h1, h2⟩ := wl_is s n hs hn
  constructor
  · intro h
    rcases Int.lt_or_le (wl s n) k with hlt | hle
    · have := neg_mono s hs (a := wl s n + 1) (b := k) (by omega) (by omega)
      omega
    · exact hle
  · intro h
    have := neg_mono s hs hk h
    omega
theorem wl_nn (s n : Int) (hs : 3 ≤ s) (hn : 0 ≤ n) : 0 ≤ wl s n := (wl_is s n hs hn).1
theorem wl_le (s n : Int) (hs : 3 ≤ s) (hn : 0 ≤ n) (h : n ≤ 1000000000000) : wl s n ≤ 1500000 := by
  rcases Int.lt_or_le 1500000 (wl s n) with hlt | hle
  · have h1 := (wfits_iff s n 1500001 hs hn (by omega)).2 (by omega)
    have h2 := neg_ge s 1500001 hs
    omega
  · exact hle
/-- Where a number has a place of each sign, the one that is not below 0 is of no greater size. -/
theorem both (s n : Int) (hs : 3 ≤ s) (hn : 0 ≤ n) (h1 : num s (pl s n) = n) : pl s n ≤ wl s n ∨ num s (-(wl s n)) ≠ n := by
  by_cases h4 : s ≤ 4
  · refine Or.inl ((wfits_iff s n _ hs hn (pl_nn s n hs hn)).1 ?_)
    have e1 := neg_twice s (pl s n)
    have e2 := num_twice s (pl s n)
    have e3 := Int.mul_nonneg (a := 4 - s) (b := pl s n) (by omega) (pl_nn s n hs hn)
    have e4 : (4 - s) * pl s n = -((s - 4) * pl s n) := by grind
    omega
  · by_cases h2 : num s (-(wl s n)) = n
    · refine Or.inl ?_
      have e1 := neg_twice s (wl s n)
      have e2 := num_twice s (pl s n)
      have p0 := pl_nn s n hs hn
      have w0 := wl_nn s n hs hn
      generalize pl s n = k at *
      generalize wl s n = l at *
      rw [h1] at e2
      rw [h2] at e1
      have e3 : (l + k) * ((s - 2) * (k - l) - (s - 4)) = 0 := by grind
      rcases Int.mul_eq_zero.1 e3 with e | e
      · omega
      · exfalso
        rcases Int.lt_or_le l k with hlt | hle
        · have := Int.mul_nonneg (a := s - 2) (b := k - l - 1) (by omega) (by omega)
          have e5 : (s - 2) * (k - l - 1) = (s - 2) * (k - l) - (s - 2) := by grind
          omega
        · have := Int.mul_nonneg (a := s - 2) (b := l - k) (by omega) (by omega)
          have e5 : (s - 2) * (l - k) = -((s - 2) * (k - l)) := by grind
          omega
    · exact Or.inr h2

/-! ### roots -/
def IsRt (n k : Int) : Prop := 0 ≤ k ∧ k * k ≤ n ∧ n < (k + 1) * (k + 1)
theorem sq_mono {a b : Int} (ha : 0 ≤ a) (h : a ≤ b) : a * a ≤ b * b := Int.mul_le_mul h h ha (by omega)
theorem rt_ex (n : Nat) : ∃ k, IsRt n k := by
  induction n with
  | zero => exact ⟨0, by omega, by simp, by simp⟩
  | succ n ih =>
    obtain ⟨k, h0, h1, h2⟩ := ih
    by_cases h : (k + 1) * (k + 1) ≤ ((n + 1 : Nat) : Int)
    · refine ⟨k + 1, by omega, h, ?_⟩
      have e : (k + 1 + 1) * (k + 1 + 1) = (k + 1) * (k + 1) + 2 * k + 3 := by grind
      omega
    · exact ⟨k, h0, by omega, by omega⟩
noncomputable def rt (n : Int) : Int := Classical.epsilon (IsRt n)
theorem rt_is (n : Int) (hn : 0 ≤ n) : IsRt n (rt n) := by
  obtain ⟨m, rfl⟩ := Int.eq_ofNat_of_zero_le hn
  exact Classical.epsilon_spec (rt_ex m)
theorem rfits_iff (n k : Int) (hn : 0 ≤ n) (hk : 0 ≤ k) : k * k ≤ n ↔ k ≤ rt n := by
  obtain ⟨h0, h1, h2⟩ := rt_is n hn
  constructor
  · intro h
    rcases Int.lt_or_le (rt n) k with hlt | hle
    · have := sq_mono (a := rt n + 1) (b := k) (by omega) (by omega)
      omega
    · exact hle
  · intro h
    have := sq_mono hk h
    omega
theorem rt_nn (n : Int) (hn : 0 ≤ n) : 0 ≤ rt n := (rt_is n hn).1
theorem rt_le (n : Int) (hn : 0 ≤ n) (h : n ≤ 4000000000000000000) : rt n ≤ 2000000000 := by
  rcases Int.lt_or_le 2000000000 (rt n) with hlt | hle
  · have h1 := (rfits_iff n 2000000001 hn (by omega)).2 (by omega)
    omega
  · exact hle
theorem rt_uniq (n k : Int) (hn : 0 ≤ n) (h0 : 0 ≤ k) (h1 : k * k ≤ n) (h2 : n < (k + 1) * (k + 1)) : k = rt n := by
  have a := (rfits_iff n k hn h0).1 h1
  have b : ¬ (k + 1 ≤ rt n) := fun h => by
    have := (rfits_iff n (k + 1) hn (by omega)).2 h
    omega
  omega
/-- A power of 2. -/
def P2 (t : Int) : Prop := ∃ j : Nat, t = ((2 ^ j : Nat) : Int)
theorem P2.pos {t : Int} (h : P2 t) : 1 ≤ t := by
  obtain ⟨j, rfl⟩ := h
  have := Nat.pow_pos (n := j) (show 0 < 2 by omega)
  omega
theorem P2.half {t : Int} (h : P2 t) (h1 : t ≠ 1) : P2 (t / 2) ∧ t = 2 * (t / 2) := by
  obtain ⟨j, rfl⟩ := h
  cases j with
  | zero => simp at h1
  | succ j =>
    have e : (2 ^ (j + 1) : Nat) = 2 * 2 ^ j := by rw [Nat.pow_succ]; omega
    rw [e]
    have e2 : (((2 * 2 ^ j : Nat) : Int)) / 2 = ((2 ^ j : Nat) : Int) := by omega
    rw [e2]
    exact ⟨⟨j, rfl⟩, by omega⟩
theorem P2.start : P2 2147483648 := ⟨31, by decide⟩
end Go.Proofs.YtbcgidgjdedkiaaDoor
/- Plain arithmetic of chapter 5: pairs of factors, runs, odd divisors, differences of squares: lists of the specification and of the program, and why they are the same. No program in sight. -/
namespace Go.Proofs.YtbcgidgjdedkiaaDoor

/-- The numbers 1, 2, .., k. -/
def upTo (k : Nat) : List Int := (List.range k).map fun (j : Nat) => (j : Int) + 1
theorem upTo_succ (k : Nat) : upTo (k + 1) = upTo k ++ [(k : Int) + 1] := by simp [upTo, List.range_succ]
theorem mem_upTo (k : Nat) (x : Int) : x ∈ upTo k ↔ 1 ≤ x ∧ x ≤ k := by
  simp only [upTo, List.mem_map, List.mem_range]
  constructor
  · rintro ⟨j, hj, rfl⟩
    omega
  · rintro ⟨h1, h2⟩
    exact ⟨(x - 1).toNat, by omega, by omega⟩
theorem upTo_lt (k : Nat) : (upTo k).Pairwise (· < ·) := by
  induction k with
  | zero => simp [upTo]
  | succ k ih =>
    rw [upTo_succ, List.pairwise_append]
    refine ⟨ih, by simp, fun a ha b hb => ?_⟩
    rw [mem_upTo] at ha
    simp at hb
    omega
/-- What f picks of 1, 2, .., k. -/
def sel {α : Type} (f : Int → Option α) (k : Nat) : List α := (upTo k).filterMap f
section
variable {α β : Type}
theorem sel_zero (f : Int → Option α) : sel f 0 = [] := by simp [sel, upTo]
theorem sel_some (f : Int → Option α) (k : Nat) {x : α} (h : f ((k : Int) + 1) = some x) : sel f (k + 1) = sel f k ++ [x] := by simp [sel, upTo_succ, List.filterMap_append, h]
theorem sel_none (f : Int → Option α) (k : Nat) (h : f ((k : Int) + 1) = none) : sel f (k + 1) = sel f k := by simp [sel, upTo_succ, List.filterMap_append, h]
theorem sel_len (f : Int → Option α) (k : Nat) : (sel f k).length ≤ k := by
  refine Nat.le_trans (List.length_filterMap_le _ _) ?_
  simp [upTo]
theorem sel_cut (f : Int → Option α) {k m : Nat} (hkm : k ≤ m) (h : ∀ l : Int, k < l → l ≤ m → f l = none) : sel f m = sel f k := by
  induction m with
  | zero => have : k = 0 := by omega
            rw [this]
  | succ m ih =>
    by_cases e : k = m + 1
    · rw [e]
    · rw [sel_none f m (h _ (by omega) (by omega))]
      exact ih (by omega) fun l h1 h2 => h l h1 (by omega)
theorem sel_congr {f g : Int → Option α} {k : Nat} (h : ∀ l : Int, 1 ≤ l → l ≤ k → f l = g l) : sel f k = sel g k := by
  induction k with
  | zero => simp [sel, upTo]
  | succ k ih =>
    have e := h ((k : Int) + 1) (by omega) (by omega)
    have i := ih fun l h1 h2 => h l h1 (by omega)
    unfold sel at *
    rw [upTo_succ, List.filterMap_append, List.filterMap_append, i]
    simp only [List.filterMap_cons, e, List.filterMap_nil]
theorem sel_bind (f : Int → Option α) (g : α → Option β) (k : Nat) : (sel f k).filterMap g = sel (fun l => (f l).bind g) k := by
  simp [sel, List.filterMap_filterMap]
theorem mem_sel (f : Int → Option α) (k : Nat) (x : α) : x ∈ sel f k ↔ ∃ l : Int, 1 ≤ l ∧ l ≤ k ∧ f l = some x := by
  simp only [sel, List.mem_filterMap, mem_upTo]
  constructor
  · rintro ⟨l, ⟨h1, h2⟩, h3⟩; exact ⟨l, h1, h2, h3⟩
  · rintro ⟨l, h1, h2, h3⟩; exact ⟨l, ⟨h1, h2⟩, h3⟩
/-- What is picked stands in the order of what it is picked by. -/
theorem sel_pairwise (f : Int → Option α) (R : α → α → Prop) (k : Nat) (h : ∀ (a b : Int) x y, 1 ≤ a → a < b → b ≤ k → f a = some x → f b = some y → R x y) : (sel f k).Pairwise R := by
  induction k with
  | zero => simp [sel, upTo]
  | succ k ih =>
    have i := ih fun a b x y h1 h2 h3 => h a b x y h1 h2 (by omega)
    cases e : f ((k : Int) + 1) with
    | none => rw [sel_none f k e]; exact i
    | some y =>
      rw [sel_some f k e, List.pairwise_append]
      refine ⟨i, by simp, fun x hx y' hy => ?_⟩
      simp at hy
      subst hy
      obtain ⟨l, h1, h2, h3⟩ := (mem_sel f k x).1 hx
      exact h l _ x y' h1 (by omega) (by omega) h3 e
end

/-! ### a product and its halves -/
theorem div_spec (n d : Int) (_ : 1 ≤ d) (hm : n % d = 0) : d * (n / d) = n := Int.mul_ediv_cancel' (Int.dvd_of_emod_eq_zero hm)
theorem div_pos' (n d : Int) (hn : 1 ≤ n) (hd : 1 ≤ d) (hm : n % d = 0) : 1 ≤ n / d := by
  have h := div_spec n d hd hm
  rcases Int.lt_or_le (n / d) 1 with h1 | h1
  · have := Int.mul_nonneg (a := d) (b := -(n / d)) (by omega) (by omega)
    have e : d * -(n / d) = -(d * (n / d)) := by grind
    omega
  · exact h1
theorem mul_mod0 (a b : Int) : (a * b) % a = 0 := Int.mul_emod_right a b
theorem mul_div0 (a b : Int) (ha : 1 ≤ a) : a * b / a = b := Int.mul_ediv_cancel_left b (by omega)
theorem le_of_sq {a b n : Int} (ha : 0 ≤ a) (_ : 0 ≤ b) (h1 : a * a ≤ n) (h2 : a * b = n) (ha1 : 1 ≤ a) : a ≤ b := by
  rcases Int.lt_or_le b a with h | h
  · have := Int.mul_le_mul_of_nonneg_left (show b + 1 ≤ a by omega) (show 0 ≤ a by omega)
    have e : a * (b + 1) = a * b + a := by grind
    omega
  · exact h
theorem tmod2 (x : Int) : x.tmod 2 = 0 ↔ x % 2 = 0 := by
  constructor
  · intro h
    have := Int.dvd_of_tmod_eq_zero h
    omega
  · intro h
    exact Int.tmod_eq_zero_of_dvd (by omega)
theorem tdiv2 (x : Int) (h : x % 2 = 0) : x.tdiv 2 = x / 2 := Int.tdiv_eq_ediv_of_dvd (by omega)

/-! ### pairs of factors -/
/-- The pair of factors whose lesser one is d. -/
def fP (n d : Int) : Option (Int × Int) := if n % d = 0 then some (d, n / d) else none
/-- All pairs of factors, the lesser factor first. -/
noncomputable def facs (n : Int) : List (Int × Int) := sel (fP n) (rt n).toNat
theorem mem_facs (n : Int) (hn : 1 ≤ n) (x : Int × Int) : x ∈ facs n ↔ 1 ≤ x.1 ∧ x.1 ≤ x.2 ∧ x.1 * x.2 = n := by
  rw [facs, mem_sel]
  have r0 := rt_nn n (by omega)
  constructor
  · rintro ⟨l, h1, h2, h3⟩
    unfold fP at h3
    split at h3
    · rename_i hm
      injection h3 with h3
      subst h3
      have e := div_spec n l h1 hm
      have p := div_pos' n l hn h1 hm
      have q := (rfits_iff n l (by omega) (by omega)).2 (by omega)
      exact ⟨h1, le_of_sq (by omega) (by omega) q e h1, e⟩
    · cases h3
  · rintro ⟨h1, h2, h3⟩
    have hm : n % x.1 = 0 := by rw [← h3]; exact mul_mod0 _ _
    have q : x.1 * x.1 ≤ n := by
      rw [← h3]
      exact Int.mul_le_mul_of_nonneg_left h2 (by omega)
    have q2 := (rfits_iff n x.1 (by omega) (by omega)).1 q
    refine ⟨x.1, h1, by omega, ?_⟩
    rw [fP, if_pos hm]
    have : n / x.1 = x.2 := by rw [← h3]; exact mul_div0 _ _ h1
    rw [this]
/-- Later pairs are closer together. -/
theorem facs_lt (n : Int) (hn : 1 ≤ n) : (facs n).Pairwise fun x y => x.1 < y.1 ∧ y.2 < x.2 := by
  unfold facs
  refine sel_pairwise _ _ _ fun a b x y h1 h2 h3 hx hy => ?_
  unfold fP at hx hy
  split at hx
  · rename_i ha
    split at hy
    · rename_i hb
      injection hx with hx
      injection hy with hy
      subst hx
      subst hy
      have e1 := div_spec n a h1 ha
      have e2 := div_spec n b (by omega) hb
      refine ⟨h2, ?_⟩
      show n / b < n / a
      rcases Int.lt_or_le (n / b) (n / a) with h | h
      · exact h
      · have p := div_pos' n a hn h1 ha
        have m1 := Int.mul_le_mul_of_nonneg_left h (show 0 ≤ a by omega)
        have m2 := Int.mul_le_mul_of_nonneg_right (show a + 1 ≤ b by omega) (show 0 ≤ n / b by omega)
        have e3 : (a + 1) * (n / b) = a * (n / b) + n / b := by grind
        omega
    · cases hy
  · cases hx
theorem facs_len (n : Int) (h0 : 1 ≤ n) (h1 : n ≤ 2000000) : (facs n).length ≤ 1500 := by
  have := sel_len (fP n) (rt n).toNat
  have h2 : rt n ≤ 1415 := by
    rcases Int.lt_or_le 1415 (rt n) with h | h
    · have := (rfits_iff n 1416 (by omega) (by omega)).2 (by omega)
      omega
    · exact h
  unfold facs
  omega

/-! ### runs -/
/-- The run of numbers of at least 1 that a pair of factors of twice the sum tells. -/
def gR (x : Int × Int) : Option (Int × Int) := if (x.2 - x.1) % 2 = 0 then none else some ((x.2 - x.1 + 1) / 2, x.1)
noncomputable def runsL (n : Int) : List (Int × Int) := (facs (2 * n)).filterMap gR
/-- What the specification looks at: a length. -/
def fS (n : Int) (signed : Bool) (l : Int) : Option (Int × Int) :=
  if 2 * n % l = 0 ∧ (2 * n / l - l + 1) % 2 = 0 ∧ (signed = true ∨ 1 ≤ (2 * n / l - l + 1) / 2) then some ((2 * n / l - l + 1) / 2, l) else none
theorem runs_eq (n : Int) (hn : 1 ≤ n) : sel (fS n false) (2 * n).toNat = runsL n := by
  have r0 := rt_nn (2 * n) (by omega)
  have hr : (rt (2 * n)).toNat ≤ (2 * n).toNat := by
    obtain ⟨a, b, c⟩ := rt_is (2 * n) (by omega)
    rcases Int.lt_or_le (2 * n) (rt (2 * n)) with h | h
    · have := Int.mul_le_mul_of_nonneg_left (show 1 ≤ rt (2 * n) by omega) (show 0 ≤ rt (2 * n) by omega)
      omega
    · omega
  unfold runsL facs
  rw [sel_bind, sel_cut (fS n false) hr]
  · refine sel_congr fun l h1 h2 => ?_
    have q := (rfits_iff (2 * n) l (by omega) (by omega)).2 (by omega)
    unfold fS fP
    by_cases hm : 2 * n % l = 0
    · have e := div_spec (2 * n) l h1 hm
      have p := div_pos' (2 * n) l (by omega) h1 hm
      have le := le_of_sq (by omega) (by omega) q e h1
      generalize 2 * n / l = b at *
      simp only [hm, if_true, Option.bind_some, gR]
      by_cases hp : (b - l) % 2 = 0
      · have : ¬ ((b - l + 1) % 2 = 0) := by omega
        simp [hp, this]
      · have h3 : (b - l + 1) % 2 = 0 := by omega
        have h4 : 1 ≤ (b - l + 1) / 2 := by omega
        simp [hp, h3, h4]
    · simp [hm]
  · intro l h1 h2
    unfold fS
    have h3 : ¬ (l * l ≤ 2 * n) := fun h => by
      have := (rfits_iff (2 * n) l (by omega) (by omega)).1 h
      omega
    by_cases hm : 2 * n % l = 0
    · have e := div_spec (2 * n) l (by omega) hm
      have h4 : 2 * n / l < l := by
        rcases Int.lt_or_le (2 * n / l) l with h | h
        · exact h
        · have := Int.mul_le_mul_of_nonneg_left h (show 0 ≤ l by omega)
          omega
      have : ¬ (1 ≤ (2 * n / l - l + 1) / 2) := by omega
      simp [this]
    · simp [hm]
theorem mem_runsL (n : Int) (hn : 1 ≤ n) (r : Int × Int) : r ∈ runsL n ↔ ∃ a b, 1 ≤ a ∧ a < b ∧ a * b = 2 * n ∧ (b - a) % 2 = 1 ∧ r = ((b - a + 1) / 2, a) := by
  unfold runsL
  rw [List.mem_filterMap]
  constructor
  · rintro ⟨x, hx, h⟩
    obtain ⟨h1, h2, h3⟩ := (mem_facs (2 * n) (by omega) x).1 hx
    unfold gR at h
    split at h
    · cases h
    · rename_i hp
      injection h with h
      exact ⟨x.1, x.2, h1, by omega, h3, by omega, h.symm⟩
  · rintro ⟨a, b, h1, h2, h3, h4, rfl⟩
    refine ⟨(a, b), (mem_facs (2 * n) (by omega) (a, b)).2 ⟨h1, by simp; omega, h3⟩, ?_⟩
    rw [gR, if_neg (by simp; omega)]
theorem runs_len (n : Int) (h0 : 1 ≤ n) (h1 : n ≤ 1000000) : (runsL n).length ≤ 1500 := Nat.le_trans (List.length_filterMap_le _ _) (facs_len (2 * n) (by omega) (by omega))
theorem pw_filterMap {α β : Type} (g : α → Option β) (R : α → α → Prop) (S : β → β → Prop) : ∀ {l : List α}, l.Pairwise R → (∀ x ∈ l, ∀ y ∈ l, ∀ a b, R x y → g x = some a → g y = some b → S a b) → (l.filterMap g).Pairwise S
  | [], _, _ => by simp
  | x :: l, h, hg => by
    rw [List.pairwise_cons] at h
    have ih := pw_filterMap g R S h.2 fun x hx y hy => hg x (by simp [hx]) y (by simp [hy])
    cases e : g x with
    | none => simpa [e] using ih
    | some a =>
      simp only [List.filterMap_cons, e, List.pairwise_cons]
      refine ⟨fun b hb => ?_, ih⟩
      obtain ⟨y, hy, e2⟩ := List.mem_filterMap.1 hb
      exact hg x (by simp) y (by simp [hy]) a b (h.1 y hy) e e2
/-- Longer runs begin at lesser numbers and end before. -/
theorem runs_lt (n : Int) (hn : 1 ≤ n) : (runsL n).Pairwise fun x y => x.2 < y.2 ∧ y.1 + y.2 < x.1 + x.2 ∧ y.1 < x.1 := by
  unfold runsL
  refine pw_filterMap gR _ _ (facs_lt (2 * n) (by omega)) fun x hx y hy a b hxy ha hb => ?_
  obtain ⟨h1, h2, h3⟩ := (mem_facs (2 * n) (by omega) x).1 hx
  obtain ⟨k1, k2, k3⟩ := (mem_facs (2 * n) (by omega) y).1 hy
  unfold gR at ha hb
  split at ha
  · cases ha
  · split at hb
    · cases hb
    · injection ha with ha
      injection hb with hb
      subst ha
      subst hb
      -- x.1 < y.1 <= y.2 < x.2, one product: the sums fall
      have hs : y.1 + y.2 < x.1 + x.2 := by
        rcases Int.lt_or_le (y.1 + y.2) (x.1 + x.2) with h | h
        · exact h
        · have m1 := Int.mul_pos (a := y.1 - x.1) (b := x.2 - y.1) (by omega) (by omega)
          have m2 := Int.mul_nonneg (a := y.1) (b := y.1 + y.2 - (x.1 + x.2)) (by omega) (by omega)
          have e1 : (y.1 - x.1) * (x.2 - y.1) = y.1 * (x.1 + x.2) - y.1 * y.1 - x.1 * x.2 := by grind
          have e2 : y.1 * (y.1 + y.2 - (x.1 + x.2)) = y.1 * y.1 + y.1 * y.2 - y.1 * (x.1 + x.2) := by grind
          omega
      refine ⟨hxy.1, ?_, ?_⟩ <;> simp only <;> omega
end Go.Proofs.YtbcgidgjdedkiaaDoor
