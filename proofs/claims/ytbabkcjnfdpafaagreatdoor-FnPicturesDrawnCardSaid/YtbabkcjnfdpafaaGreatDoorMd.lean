/- The texts XDuN XDuA XDuB XDuC XDuD XDuG XDuE XDuJ XDuP XDuT joined. -/
import Derived.Test.YtbabkcjnfdpafaaGreatDoorMa
import Derived.Maps.RangeWalk
import Derived.WideKeyPair
import Derived.DeepKeys4
import Derived.WalkKit
import Derived.ProofKit
import Derived.OpenShut
import Derived.Deep.Draws
import Derived.Test.YtbabkcjnfdpafaaGreatDoorMb
import Derived.Lib.Hide
import Derived.Deep.RegionHeld3
import Derived.Deep.AppendLies
import Derived.BigRegion
import Derived.Laws.EntriesVeiled
import Derived.Lib.Builder
/- Chapter 7: a map that has places for keys, as a set of places: what it holds, how it is ranged over. Of no one program. -/
namespace Go.Proofs.YtbabkcjnfdpafaaGreatDoor
open Go.ChangeShapes Go.WideShapes Go.ChangeAt Go.RowKit Go.Maps

/-- A place as a key, as a value. -/
def vk (x y : Int) : Lit := .string (keyBytes [.int .i64 x, .int .i64 y])
def vv (x y : Int) : Value := .agg #[.int .i64 x, .int .i64 y]
def wf2 (x y : Int) : Prop := (Lit.int .i64 x).wf = true ∧ (Lit.int .i64 y).wf = true
theorem wf2_of {x y : Int} (x0 : -9223372036854775808 ≤ x) (x1 : x ≤ 9223372036854775807) (y0 : -9223372036854775808 ≤ y) (y1 : y ≤ 9223372036854775807) : wf2 x y := ⟨WalkArith.wf_i64 ⟨x0, x1⟩, WalkArith.wf_i64 ⟨y0, y1⟩⟩
/-- A type of places as a key's type. -/
structure VKey (P : Program) (k : TypeId) : Prop where
  K : Keyed P k
  key : ∀ x y, wf2 x y → keyOf P k (vv x y) = some (vk x y)
  inv : ∀ key kl, keyOf P k key = some kl → ∃ x y, wf2 x y ∧ key = vv x y
section
variable {P : Program} {k : TypeId}
theorem VKey.inv2 (V : VKey P k) {key : Value} {kl : Lit} (h : keyOf P k key = some kl) : ∃ x y, wf2 x y ∧ key = vv x y ∧ kl = vk x y := by
  obtain ⟨x, y, hw, rfl⟩ := V.inv key kl h
  have := V.key x y hw
  rw [h] at this
  exact ⟨x, y, hw, rfl, Option.some.inj this⟩
theorem VKey.inj (V : VKey P k) {x y u v : Int} (h1 : wf2 x y) (h2 : wf2 u v) (h : vk x y = vk u v) : x = u ∧ y = v := by
  have e := V.K.inj (V.key x y h1) (by rw [h]; exact V.key u v h2)
  unfold vv at e
  simp at e
  exact e
theorem VKey.isKey (V : VKey P k) {x y : Int} (h : wf2 x y) : WideAt.IsKeyLit (vk x y) := V.K.key (V.key x y h)
theorem VKey.same (V : VKey P k) {x y u v : Int} (h1 : wf2 x y) (h2 : wf2 u v) : (vk x y).sameKey (vk u v) = (decide (x = u) && decide (y = v)) := by
  by_cases h : x = u ∧ y = v
  · obtain ⟨rfl, rfl⟩ := h
    rw [WideAt.sameKey_self (V.isKey h1)]
    simp
  · rw [sameKey_ne (fun e => h (V.inj h1 h2 e))]
    by_cases a : x = u
    · have : ¬ y = v := fun b => h ⟨a, b⟩
      simp [this]
    · simp [a]
/-- From the key's type alone. -/
theorem vkey_of {e : TypeId} (A : WideMaps.ArrKey P k e 2) (he : P.underlying e = some (.int .i64)) (hsz : ∃ m, P.types.size = m + 1) (K : Keyed P k) : VKey P k where
  K := K
  key := fun x y h => WideMaps.keyOf_pair A he hsz h.1 h.2
  inv := fun key kl h => by
    obtain ⟨xs, L, rfl, h1, h2⟩ := keyOf_top A.wide h
    obtain ⟨m, hm⟩ := hsz
    rw [hm] at h1
    unfold Program.keyLits at h1
    simp only [A.hu] at h1
    split at h1
    · rename_i hl
      rw [show List.range 2 = [0, 1] from rfl, List.mapM_cons, List.mapM_cons, List.mapM_nil] at h1
      obtain ⟨xs⟩ := xs
      rw [A.size] at hl
      match xs, hl with
      | [c0, c1], _ =>
        simp only [A.one, bind, pure, Option.map_eq_some_iff, Option.bind_eq_some_iff, Option.some.injEq] at h1
        obtain ⟨_, ⟨L0, g0, _, ⟨L1, g1, _, rfl, rfl⟩, rfl⟩, _⟩ := h1
        have one : ∀ (c : Value) (L0 : List Lit), P.keyLits (m + 1) e [c] = some L0 → ∃ a, c = .int .i64 a ∧ (Lit.int .i64 a).wf = true := by
          intro c L0 g
          unfold Program.keyLits at g
          rw [he] at g
          cases c <;> simp at g
          obtain ⟨⟨rfl, hw⟩, _⟩ := g
          exact ⟨_, rfl, hw⟩
        obtain ⟨a, rfl, ha⟩ := one c0 L0 (by simpa using g0)
        obtain ⟨b, rfl, hb⟩ := one c1 L1 (by simpa using g1)
        exact ⟨a, b, ⟨ha, hb⟩, rfl⟩
    · cases h1

/-! ### sets -/
/-- What a map's datum holds. -/
structure Has (D : DataW Unit) (S : Int → Int → Bool) : Prop where
  bd : Bd 100 100 S
  has : ∀ x y, wf2 x y → Maps.has D (vk x y) = S x y
/-- Block b is a map that has just the places of the set S. -/
def Dots (P : Program) (k : TypeId) (w : World) (b : Nat) (S : Int → Int → Bool) : Prop := ∃ D : DataW Unit, w.ownsMap P k unitElem b (Maps.size D) D ∧ Has D S
theorem Bd.wf {S : Int → Int → Bool} (h : Bd 100 100 S) {x y : Int} (hs : S x y = true) : wf2 x y := by
  have := h x y hs
  exact wf2_of (by omega) (by omega) (by omega) (by omega)
variable {w : World} {b n : Nat} {D : DataW Unit} {S T : Int → Int → Bool}
theorem owns_tight (h : w.ownsMap P k unitElem b n D) : w.ownsMap P k unitElem b (Maps.size D) D := by
  obtain ⟨es, clock, hb, F, hs, rfl⟩ := h
  exact ⟨es, clock, hb, F, by simp [Maps.size, length_sorted], rfl⟩
/-- The keys of a map's datum. -/
def keysOf : DataW Unit → List Lit
  | .map es => es.map (·.1)
  | _ => []
theorem keysOf_len (D : DataW Unit) : (keysOf D).length = Maps.size D := by cases D <;> simp [keysOf, Maps.size]
theorem owns_keys (V : VKey P k) (h : w.ownsMap P k unitElem b n D) : (keysOf D).Nodup ∧ ∀ kl, kl ∈ keysOf D ↔ Maps.has D kl = true ∧ ∃ x y, wf2 x y ∧ kl = vk x y := by
  have he := h.entries V.K
  obtain ⟨es, clock, hb, F, hs, rfl⟩ := h
  obtain ⟨es2, e2, hpw, hkey⟩ := he
  injection e2 with e2
  refine ⟨?_, fun kl => ?_⟩
  · show List.Pairwise (· ≠ ·) (((es.toList.map (WideElems.rg P k unitElem)).foldr DataW.insert []).map (·.1))
    rw [List.pairwise_map, e2]
    exact hpw
  · show kl ∈ (((es.toList.map (WideElems.rg P k unitElem)).foldr DataW.insert []).map (·.1)) ↔ _
    constructor
    · intro hm
      obtain ⟨p, hp, rfl⟩ := List.mem_map.1 hm
      refine ⟨List.any_eq_true.2 ⟨p, hp, WideAt.sameKey_self (hkey p (by rw [← e2]; exact hp))⟩, ?_⟩
      obtain ⟨x, hx, rfl⟩ := List.mem_map.1 (mem_sorted.1 hp)
      obtain ⟨y, hy⟩ := F.reads x hx
      obtain ⟨a, c, hw, _, e⟩ := V.inv2 (WideElems.rd_key hy)
      exact ⟨a, c, hw, by rw [WideElems.rg_of hy]; exact e⟩
    · rintro ⟨hh, _⟩
      obtain ⟨p, hp, hk⟩ := List.any_eq_true.1 hh
      exact List.mem_map.2 ⟨p, hp, WideAt.sameKey_eq hk⟩
/-- How many there are. -/
theorem has_size (V : VKey P k) (h : w.ownsMap P k unitElem b n D) (hs : Has D S) {W H : Nat} (hb : Bd W H S) : Maps.size D = cnt (sD W S) (W * H) := by
  obtain ⟨hnd, hmem⟩ := owns_keys V h
  have hW : ∀ x y, S x y = true → wf2 x y := fun x y hxy => hs.bd.wf hxy
  have hnd2 : (((List.range (W * H)).filter (sD W S)).map fun i => vk ((i % W : Nat) : Int) ((i / W : Nat) : Int)).Nodup := by
    have hr : ((List.range (W * H)).filter (sD W S)).Nodup := List.nodup_range.filter _
    refine List.pairwise_map.2 (hr.imp_of_mem (fun {i j} hi hj hne e => hne ?_))
    have hi2 := List.mem_filter.1 hi
    have hj2 := List.mem_filter.1 hj
    obtain ⟨e1, e3⟩ := V.inj (hW _ _ hi2.2) (hW _ _ hj2.2) e
    obtain ⟨_, _, a⟩ := place_of (List.mem_range.1 hi2.1)
    obtain ⟨_, _, c⟩ := place_of (List.mem_range.1 hj2.1)
    rw [← a, ← c, Int.ofNat_inj.1 e1, Int.ofNat_inj.1 e3]
  have hperm : (keysOf D).Perm (((List.range (W * H)).filter (sD W S)).map fun i => vk ((i % W : Nat) : Int) ((i / W : Nat) : Int)) := by
    refine (List.perm_ext_iff_of_nodup hnd hnd2).2 fun kl => ?_
    rw [hmem]
    constructor
    · rintro ⟨hh, x, y, hw, rfl⟩
      rw [hs.has x y hw] at hh
      have hbb := hb x y hh
      obtain ⟨a, rfl⟩ := Int.eq_ofNat_of_zero_le hbb.1
      obtain ⟨c, rfl⟩ := Int.eq_ofNat_of_zero_le hbb.2.2.1
      have ha : a < W := by omega
      have hc : c < H := by omega
      refine List.mem_map.2 ⟨c * W + a, List.mem_filter.2 ⟨List.mem_range.2 (place_lt ha hc), ?_⟩, ?_⟩
      · unfold sD
        rw [place_x ha, place_y ha]
        exact hh
      · rw [place_x ha, place_y ha]
    · intro hm
      obtain ⟨i, hi, rfl⟩ := List.mem_map.1 hm
      have hi2 := List.mem_filter.1 hi
      exact ⟨by rw [hs.has _ _ (hW _ _ hi2.2)]; exact hi2.2, _, _, hW _ _ hi2.2, rfl⟩
  rw [← keysOf_len, hperm.length_eq, List.length_map, cnt, List.countP_eq_length_filter]
theorem has_small (V : VKey P k) (h : w.ownsMap P k unitElem b n D) (hs : Has D S) : Maps.size D ≤ 10000 := by
  rw [has_size V h hs hs.bd]
  exact cnt_le _ _

/-! ### carried -/
theorem Dots.lt (h : Dots P k w b S) : b < w.heap.size := let ⟨_, h, _⟩ := h; h.lt
theorem Dots.bd (h : Dots P k w b S) : Bd 100 100 S := let ⟨_, _, h⟩ := h; h.bd
theorem Dots.kept {w' : World} {row : Option Nat} (h : Dots P k w b S) (hg : w.grownBy w' row) (hne : some b ≠ row) : Dots P k w' b S := by
  obtain ⟨D, h, hs⟩ := h
  exact ⟨D, h.kept hg hne, hs⟩
theorem grown_of_below {B : Nat} {w w' : World} (h : Below B w w') (hB : w.heap.size ≤ B) : w.grownBy w' none := ⟨h.os, h.tape, h.output, h.size, fun i hi _ => h.block i (by omega)⟩
theorem Dots.below {w' : World} (h : Dots P k w b S) (hb : Below w.heap.size w w') : Dots P k w' b S := h.kept (grown_of_below hb (Nat.le_refl _)) (by simp)
theorem Dots.below2 {w' : World} {B : Nat} (h : Dots P k w b S) (hb : Below B w w') (hB : b < B) : Dots P k w' b S := by
  obtain ⟨D, ⟨es, clock, hh, r⟩, hs⟩ := h
  exact ⟨D, ⟨es, clock, (hb.block b hB).trans hh, r⟩, hs⟩
theorem Dots.alloc (h : Dots P k w b S) (o : Obj) : Dots P k (w.alloc o) b S := h.kept (World.grownBy_alloc w o none) (by simp)
theorem Dots.drew (h : Dots P k w b S) : Dots P k w.drew b S := h
theorem Dots.drewN (h : Dots P k w b S) (n : Nat) : Dots P k (w.drewN n) b S := h
theorem Dots.setCell (h : Dots P k w b S) {a : Addr} (ha : b ≠ a.block) (u : Value) : Dots P k (w.setCell a u) b S := by
  obtain ⟨D, h, hs⟩ := h
  exact ⟨D, h.setCell ha u, hs⟩
theorem Dots.congr (h : Dots P k w b S) (e : ∀ x y, S x y = T x y) : Dots P k w b T := by
  have : S = T := by funext x y; exact e x y
  rw [← this]
  exact h
theorem Dots.made (w : World) : Dots P k (w.alloc (.map #[] 0)) w.heap.size (fun _ _ => false) :=
  ⟨.map [], World.ownsMap_made w P k _, ⟨fun _ _ h => (by cases h), fun _ _ _ => rfl⟩⟩
theorem Dots.size (V : VKey P k) (h : Dots P k w b S) {W H : Nat} (hb : Bd W H S) {t e : TypeId} (ht : P.underlying t = some (.map k e)) (ty : TypeId) :
    (Builtin.len_ #[t] ty #[.map (some b)]).run P w = .ok (.int .i64 (cnt (sD W S) (W * H) : Nat)) w := by
  obtain ⟨D, h, hs⟩ := h
  rw [h.len ht ty, has_size V h hs hb]

/-! ### a set ranged over -/
/-- Block r is an iterator over the set S in block b, of which the places of L are still to come. -/
def Rg (P : Program) (k : TypeId) (w : World) (b r : Nat) (S L : Int → Int → Bool) : Prop :=
  ∃ (D : DataW Unit) (left : Lit → Bool) (c : Nat), w.ranges P k unitElem b r (Maps.size D) D left c ∧ Has D S ∧ (∀ x y, L x y = true → S x y = true) ∧ ∀ x y, wf2 x y → left (vk x y) = L x y
variable {L : Int → Int → Bool} {r : Nat}
theorem Rg.dots (h : Rg P k w b r S L) : Dots P k w b S := by
  obtain ⟨D, left, c, h, hs, _, _⟩ := h
  exact ⟨D, h.owns, hs⟩
theorem Rg.lt (h : Rg P k w b r S L) : r < w.heap.size := by
  obtain ⟨D, left, c, h, hs, _, _⟩ := h
  exact h.lt
theorem Rg.ne (h : Rg P k w b r S L) : r ≠ b := by
  obtain ⟨D, left, c, h, hs, _, _⟩ := h
  exact h.ne
theorem Rg.sub (h : Rg P k w b r S L) {x y : Int} (hl : L x y = true) : S x y = true := by
  obtain ⟨D, left, c, h, hs, h2, _⟩ := h
  exact h2 x y hl
theorem Rg.kept {w' : World} {row : Option Nat} (h : Rg P k w b r S L) (hg : w.grownBy w' row) (hb : some b ≠ row) (hr : some r ≠ row) : Rg P k w' b r S L := by
  obtain ⟨D, left, c, h, rest⟩ := h
  exact ⟨D, left, c, h.kept hg hb hr, rest⟩
theorem Rg.left {w' : World} {row : Option Nat} (h : Rg P k w b r S L) (hg : w.grownBy w' row) (hb : some b ≠ row) (hr : some r ≠ row) : w'.rangeLeft b r = w.rangeLeft b r := by
  obtain ⟨D, left, c, h, rest⟩ := h
  rw [h.left_eq, (h.kept hg hb hr).left_eq]
theorem Rg.alloc (h : Rg P k w b r S L) (o : Obj) : Rg P k (w.alloc o) b r S L := h.kept (World.grownBy_alloc w o none) (by simp) (by simp)
theorem Rg.below {w' : World} (h : Rg P k w b r S L) (hb : Below w.heap.size w w') : Rg P k w' b r S L := h.kept (grown_of_below hb (Nat.le_refl _)) (by simp) (by simp)
end

/-! ### at the operations -/
section
variable {P : Program} {k : TypeId} (V : VKey P k) (w : World) {ops : Array Oper} {rest : List Oper} {o : Oper} {a : Act} {Q : Exit → Act → World → Prop}
include V
/-- 'range m'. -/
theorem dots_range (hg : o.guard = none) (m : Operand) (t e : TypeId) (hop : o.op = Op.range t m) (ht : P.underlying t = some (.map k e)) (b : Nat) (S : Int → Int → Bool) (hm : a.eval m = .map (some b)) (h : Dots P k w b S)
    (hK : ∀ w', Rg P k w' b w.heap.size S S → w.grownBy w' none → w'.heap.size = w.heap.size + 1 → wpList P ops Q rest (a.put o.dst (.pointer (some ⟨w.heap.size, 0, none⟩))) w') :
    wpList P ops Q (o :: rest) a w := by
  obtain ⟨D, h, hs⟩ := h
  refine wpList_range_own w hg m t hop k e V.K ht unitElem b (Maps.size D) D hm h fun w' h1 h2 h3 => hK w' ⟨D, _, _, h1, hs, fun x y h => h, fun x y hw => hs.has x y hw⟩ h2 h3
/-- The step. -/
theorem dots_next (hg : o.guard = none) (it : Operand) (hop : o.op = Op.next it false) (b r : Nat) (S L : Int → Int → Bool) (hit : a.eval it = .pointer (some ⟨r, 0, none⟩)) (h : Rg P k w b r S L)
    (hDone : (∀ x y, L x y = false) → wpList P ops Q rest (a.put o.dst (.tuple #[.bool false])) w)
    (hMore : ∀ (x y : Int) (w' : World), L x y = true → Rg P k w' b r S (rS L x y) → w'.rangeLeft b r < w.rangeLeft b r → w.grownBy w' (some r) → w'.heap.size = w.heap.size →
      (Instr.entry (.pointer (some ⟨r, 0, none⟩))).run P w' = .ok (.tuple #[.agg #[.int .i64 x, .int .i64 y], .agg #[]]) w' → wpList P ops Q rest (a.put o.dst (.tuple #[.bool true, .agg #[.int .i64 x, .int .i64 y], .agg #[]])) w') :
    wpList P ops Q (o :: rest) a w := by
  obtain ⟨D, left, c, h, hs, hsub, hl⟩ := h
  refine wpList_next_ranges (α := Int × Int) (β := Unit) w hg it hop k V.K unitElem (fun p => vv p.1 p.2) (fun _ => .agg #[]) (fun key kl hk => by
    obtain ⟨x, y, _, e⟩ := V.inv key kl hk
    exact ⟨(x, y), e⟩) (fun v y hv => ⟨(), (unitElem_inv hv).1⟩) b r (Maps.size D) D left c hit h (fun _ h0 => hDone fun x y => ?_) (fun p _ kl y w' c' hkey hleft hv hat hr hlt hg1 hs1 hen => ?_)
  · cases hxy : L x y
    · rfl
    · have := hl x y (hs.bd.wf (hsub x y hxy))
      rw [h0, hxy] at this
      cases this
  · obtain ⟨x, y⟩ := p
    obtain ⟨x2, y2, hw, e1, e2⟩ := V.inv2 hkey
    obtain ⟨rfl, rfl⟩ : x = x2 ∧ y = y2 := by unfold vv at e1; simp at e1; exact e1
    have hL : L x y = true := by rw [← hl x y hw, ← e2]; exact hleft
    refine hMore x y w' hL ⟨D, _, c', hr, hs, fun u v huv => hsub u v (Bool.and_eq_true_iff.1 huv).1, fun u v huv => ?_⟩ (by rw [hr.left_eq, h.left_eq]; exact hlt) hg1 hs1 hen
    show (left (vk u v) && !(vk u v).sameKey kl) = rS L x y u v
    rw [hl u v huv, e2, V.same huv hw]
    rfl
/-- '_, ok := m[place]'. -/
theorem dots_has (hg : o.guard = none) (m x : Operand) (t e : TypeId) (hop : o.op = Op.lookup t m x true) (ht : P.underlying t = some (.map k e)) (hz : (zeroValue e).run P w = .ok (.agg #[]) w) (b : Nat) (S : Int → Int → Bool)
    (hm : a.eval m = .map (some b)) (h : Dots P k w b S) (u v : Int) (hx : a.eval x = .agg #[.int .i64 u, .int .i64 v]) (hw : wf2 u v)
    (hK : wpList P ops Q rest (a.put o.dst (.tuple #[.agg #[], .bool (S u v)])) w) :
    wpList P ops Q (o :: rest) a w := by
  obtain ⟨D, h, hs⟩ := h
  refine wpList_lookup_own_unit w hg m x t hop k e V.K ht hz b (Maps.size D) D hm h (vv u v) (vk u v) hx (V.key u v hw) ?_
  rw [hs.has u v hw]
  exact hK
/-- 'm[place] = struct{}{}'. -/
theorem dots_add (hg : o.guard = none) (m x v : Operand) (t e : TypeId) (hop : o.op = Op.mapUpdate t m x v) (ht : P.underlying t = some (.map k e)) (b : Nat) (S : Int → Int → Bool)
    (hm : a.eval m = .map (some b)) (h : Dots P k w b S) (p q : Int) (hx : a.eval x = .agg #[.int .i64 p, .int .i64 q]) (hv : a.eval v = .agg #[]) (hp : 0 ≤ p ∧ p < 100 ∧ 0 ≤ q ∧ q < 100)
    (hK : ∀ w', Dots P k w' b (aS S p q) → w.grownBy w' (some b) → wpList P ops Q rest (a.put o.dst undef) w') :
    wpList P ops Q (o :: rest) a w := by
  obtain ⟨D, h, hs⟩ := h
  have hw : wf2 p q := wf2_of (by omega) (by omega) (by omega) (by omega)
  have hsm := has_small V h hs
  refine wpList_mapUpdate_own w hg m x v t hop k e V.K ht unitElem b (Maps.size D) D hm h (by unfold maxLen; omega) (vv p q) (.agg #[]) (vk p q) hx hv (V.key p q hw) (.agg []) [] unitElem_mk fun w' h1 h2 => hK w' ⟨_, owns_tight h1, ⟨fun u v huv => ?_, fun u v huv => ?_⟩⟩ h2
  · unfold aS at huv
    rw [Bool.or_eq_true, Bool.and_eq_true, decide_eq_true_eq, decide_eq_true_eq] at huv
    rcases huv with huv | ⟨rfl, rfl⟩
    · exact hs.bd u v huv
    · omega
  · unfold aS
    by_cases e : u = p ∧ v = q
    · obtain ⟨rfl, rfl⟩ := e
      rw [has_put_same h.isMap (V.isKey hw)]
      simp
    · rw [has_put_other (fun e2 => e (V.inj huv hw e2)), hs.has u v huv]
      by_cases a1 : u = p
      · have a2 : ¬ v = q := fun a2 => e ⟨a1, a2⟩
        simp [a2]
      · simp [a1]
/-- 'delete(m, place)'. -/
theorem dots_del (hg : o.guard = none) (m x : Operand) (t e : TypeId) (hop : o.op = Op.call { callee := Callee.builtin Builtin.delete, args := #[m, x], argTypes := #[t, k] }) (ht : P.underlying t = some (.map k e)) (b : Nat) (S : Int → Int → Bool)
    (hm : a.eval m = .map (some b)) (h : Dots P k w b S) (p q : Int) (hx : a.eval x = .agg #[.int .i64 p, .int .i64 q]) (hw : wf2 p q)
    (hK : ∀ w', Dots P k w' b (rS S p q) → w.grownBy w' (some b) → wpList P ops Q rest (a.put o.dst (.tuple #[])) w') :
    wpList P ops Q (o :: rest) a w := by
  obtain ⟨D, h, hs⟩ := h
  refine wpList_delete_own w hg m x t k hop e V.K ht unitElem b (Maps.size D) D hm h (vv p q) (vk p q) hx (V.key p q hw) fun w' h1 h2 => hK w' ⟨_, owns_tight h1, ⟨fun u v huv => hs.bd u v (Bool.and_eq_true_iff.1 huv).1, fun u v huv => ?_⟩⟩ h2.grown
  unfold rS
  by_cases e : u = p ∧ v = q
  · obtain ⟨rfl, rfl⟩ := e
    rw [has_del_same]
    simp
  · rw [has_del_other (fun e2 => e (V.inj huv hw e2)), hs.has u v huv]
    by_cases a1 : u = p
    · have a2 : ¬ v = q := fun a2 => e ⟨a1, a2⟩
      simp [a2]
    · simp [a1]
/-- 'len(m)'. -/
theorem dots_len (hg : o.guard = none) (m : Operand) (t e : TypeId) (hop : o.op = Op.call { callee := Callee.builtin Builtin.len, args := #[m], argTypes := #[t] }) (ht : P.underlying t = some (.map k e)) (b W H : Nat) (S : Int → Int → Bool)
    (hm : a.eval m = .map (some b)) (h : Dots P k w b S) (hb : Bd W H S)
    (hK : wpList P ops Q rest (a.put o.dst (.int .i64 (cnt (sD W S) (W * H) : Nat))) w) :
    wpList P ops Q (o :: rest) a w := by
  obtain ⟨D, h, hs⟩ := h
  refine wpList_len_own w hg m t hop k e ht unitElem b (Maps.size D) D hm h ?_
  rw [has_size V h hs hb]
  exact hK
end
end Go.Proofs.YtbabkcjnfdpafaaGreatDoor

/- Chapter 7: the program's sets of dots: the key's type; has, add. -/
namespace Go.Proofs.YtbabkcjnfdpafaaGreatDoor
open Go.ChangeShapes Go.WideShapes Go.ChangeAt Go.RowKit Go.Maps

theorem akey : WideMaps.ArrKey Tryz.prog 71 3 2 := ⟨Tryz.underlying71, by kernel_rfl, by kernel_rfl, by kernel_rfl⟩
theorem vkey : VKey Tryz.prog 71 :=
  vkey_of akey Tryz.underlying3 ⟨Tryz.prog.types.size - 1, by kernel_rfl⟩ (Keyed.of_law akey.law)
theorem zeroU (w : World) : (zeroValue 96).run Tryz.prog w = .ok (.agg #[]) w := by kernel_rfl
/-- Block b holds the dots of the set S. -/
abbrev Ds (w : World) (b : Nat) (S : Int → Int → Bool) : Prop := Dots Tryz.prog 71 w b S
abbrev Rs (w : World) (b r : Nat) (S L : Int → Int → Bool) : Prop := Rg Tryz.prog 71 w b r S L
theorem has_any (b : Nat) (S : Int → Int → Bool) (x y : Int) (w : World) (h : Ds w b S) (hw : wf2 x y) :
    Calls Tryz.prog 72 #[.map (some b), .agg #[.int .i64 x, .int .i64 y]] w fun e w' => e = .returned (.bool (S x y)) ∧ Below w.heap.size w w' := by
  go_enter Tryz.func72, Tryz.ntmps72
  go_wp2_with (at_lookup; refine dots_has vkey _ rfl _ _ 55 96 rfl Tryz.underlying55 (zeroU _) b S rfl (h.alloc _) x y rfl hw ?_)
  go_ret
  exact ⟨rfl, ((Below.refl _ _).alloc (Nat.le_refl _) _).alloc (by simp) _⟩
theorem add_any (b : Nat) (S : Int → Int → Bool) (x y : Int) (w : World) (h : Ds w b S) (hp : 0 ≤ x ∧ x < 100 ∧ 0 ≤ y ∧ y < 100) :
    Calls Tryz.prog 94 #[.map (some b), .agg #[.int .i64 x, .int .i64 y]] w fun e w' => e = .returned (.tuple #[]) ∧ Ds w' b (aS S x y) ∧ w.grownBy w' (some b) := by
  go_enter Tryz.func94, Tryz.ntmps94
  go_wp2_with (at_mapUpdate; refine dots_add vkey _ rfl _ _ _ 55 96 rfl Tryz.underlying55 b S rfl (h.alloc _) x y rfl rfl hp ?_; intro w1 h1 g1)
  go_end0
  exact ⟨rfl, h1, (World.grownBy_alloc _ _ _).trans g1⟩
end Go.Proofs.YtbabkcjnfdpafaaGreatDoor

/- Chapter 7: the program's sets of dots: drop, and the library's Copy of a map into another one. -/
namespace Go.Proofs.YtbabkcjnfdpafaaGreatDoor
open Go.ChangeShapes Go.WideShapes Go.ChangeAt Go.RowKit Go.Maps

/-- The dots that stay where those of T that are no longer to come are dropped; those that are there where those are laid in. -/
def dlS (S T L : Int → Int → Bool) (x y : Int) : Bool := S x y && !(T x y && !L x y)
def ulS (S T L : Int → Int → Bool) (x y : Int) : Bool := S x y || (T x y && !L x y)
theorem pick_at {x y u v : Int} (h : ¬ (u = x ∧ v = y)) : (decide (u = x) && decide (v = y)) = false := by
  by_cases a : u = x
  · have : ¬ v = y := fun b => h ⟨a, b⟩
    simp [this]
  · simp [a]
theorem dl_start (S T : Int → Int → Bool) (u v : Int) : S u v = dlS S T T u v := by unfold dlS; cases T u v <;> simp
theorem dl_end {S T L : Int → Int → Bool} (h : ∀ x y, L x y = false) (u v : Int) : dlS S T L u v = dS S T u v := by unfold dlS dS; rw [h]; simp
theorem dl_step {S T L : Int → Int → Bool} {x y : Int} (hT : T x y = true) (u v : Int) : rS (dlS S T L) x y u v = dlS S T (rS L x y) u v := by
  unfold dlS rS
  by_cases e : u = x ∧ v = y
  · obtain ⟨rfl, rfl⟩ := e
    simp [hT]
  · rw [pick_at e]
    simp
theorem ul_start (S T : Int → Int → Bool) (u v : Int) : S u v = ulS S T T u v := by unfold ulS; cases T u v <;> simp
theorem ul_end {S T L : Int → Int → Bool} (h : ∀ x y, L x y = false) (u v : Int) : ulS S T L u v = uS S T u v := by unfold ulS uS; rw [h]; simp
theorem ul_step {S T L : Int → Int → Bool} {x y : Int} (hT : T x y = true) (u v : Int) : aS (ulS S T L) x y u v = ulS S T (rS L x y) u v := by
  unfold ulS rS aS
  by_cases e : u = x ∧ v = y
  · obtain ⟨rfl, rfl⟩ := e
    simp [hT]
  · rw [pick_at e]
    simp
theorem drop_any (b c : Nat) (S T : Int → Int → Bool) (w : World) (h : Ds w b S) (g : Ds w c T) (hne : b ≠ c) :
    Calls Tryz.prog 63 #[.map (some b), .map (some c)] w fun e w' => e = .returned (.tuple #[]) ∧ Ds w' b (dS S T) ∧ w.grownBy w' (some b) := by
  have hbl := h.lt
  have hS := h.congr (dl_start S T)
  have HS := Lib.hid hS
  clear hS h
  go_enter Tryz.func63, Tryz.ntmps63
  go_wp2_with (at_range; refine dots_range vkey _ rfl _ 55 96 rfl Tryz.underlying55 c T rfl g ?_; intro w0 hr0 hg0 hs0)
  go_frame
  have HR0 := Lib.hid hr0
  have HD0 := Lib.hid (HS.out.kept hg0 (by simp))
  have HG0 := Lib.hid (hg0.but (some b))
  clear hr0 hg0 hs0 g HS
  go_loopw [4] (fun _ wr => ∃ L, Hid (Rs wr c w.heap.size T L) ∧ Hid (Ds wr b (dlS S T L)) ∧ Hid (w.grownBy wr (some b))) (fun _ wr => wr.rangeLeft c w.heap.size)
  case atStart => exact ⟨T, HR0, HD0, HG0⟩
  case round =>
    obtain ⟨L, HR, HD, HG⟩ := hrel
    go_wp2_with (at_next; refine dots_next vkey _ rfl _ rfl c w.heap.size T L rfl HR.out ?_ ?_)
    · intro h0
      have HE := Lib.hid (HD.out.congr (dl_end h0))
      clear h0
      go_wp2
      go_end0
      exact ⟨rfl, HE.out, HG.out⟩
    · intro x y w2 hL hr2 hlt hg2 hs2 hen
      have hT := HR.out.sub hL
      have hw : wf2 x y := HR.out.dots.bd.wf hT
      have HR2 := Lib.hid hr2
      have HD2 := Lib.hid ((HD.out.kept hg2 (by simp; omega)).alloc (.cells #[.int .i64 x, .int .i64 y] 71))
      have HG2 := Lib.hid (HG.out.andThen hg2 (by intro j hj; cases hj; exact Or.inl (Nat.le_refl _)))
      have HLT := Lib.hid hlt
      have HT := Lib.hid hT
      clear hr2 hlt hL hT hg2
      go_wp2_with (at_delete; refine dots_del vkey _ rfl _ _ 55 96 rfl Tryz.underlying55 b _ rfl HD2.out x y rfl hw ?_; intro w3 hd3 hg3)
      go_frame
      have hga := World.grownBy_alloc w2 (.cells #[.int .i64 x, .int .i64 y] 71) none
      have hR3 : Rs w3 c w.heap.size T (rS L x y) := (HR2.out.alloc _).kept hg3 (by simp; omega) (by simp; omega)
      have hl3 : w3.rangeLeft c w.heap.size = w2.rangeLeft c w.heap.size := by rw [(HR2.out.alloc (.cells #[.int .i64 x, .int .i64 y] 71)).left hg3 (by simp; omega) (by simp; omega), HR2.out.left hga (by simp) (by simp)]
      have HD3 := Lib.hid (hd3.congr (dl_step HT.out))
      have HG3 := Lib.hid ((HG2.out.andThen hga (by simp)).andThen hg3 (by intro j hj; exact Or.inr (by rw [hj])))
      have HR3 := Lib.hid hR3
      have HL3 := Lib.hid hl3
      clear hd3 hR3 hl3 hga hg3
      go_roundw
      case rel => exact ⟨_, HR3, HD3, HG3⟩
      case measure => rw [HL3.out]; exact HLT.out
theorem copy_any (b c : Nat) (S T : Int → Int → Bool) (w : World) (h : Ds w b S) (g : Ds w c T) (hne : b ≠ c) :
    Calls Tryz.prog 91 #[.map (some b), .map (some c)] w fun e w' => e = .returned (.tuple #[]) ∧ Ds w' b (uS S T) ∧ w.grownBy w' (some b) := by
  have hbl := h.lt
  have hS := h.congr (ul_start S T)
  have HS := Lib.hid hS
  clear hS h
  go_enter Tryz.func91, Tryz.ntmps91
  go_wp2_with (at_range; refine dots_range vkey _ rfl _ 55 96 rfl Tryz.underlying55 c T rfl g ?_; intro w0 hr0 hg0 hs0)
  go_frame
  have HR0 := Lib.hid hr0
  have HD0 := Lib.hid (HS.out.kept hg0 (by simp))
  have HG0 := Lib.hid (hg0.but (some b))
  clear hr0 hg0 hs0 g HS
  go_loopw [4] (fun _ wr => ∃ L, Hid (Rs wr c w.heap.size T L) ∧ Hid (Ds wr b (ulS S T L)) ∧ Hid (w.grownBy wr (some b))) (fun _ wr => wr.rangeLeft c w.heap.size)
  case atStart => exact ⟨T, HR0, HD0, HG0⟩
  case round =>
    obtain ⟨L, HR, HD, HG⟩ := hrel
    go_wp2_with (at_next; refine dots_next vkey _ rfl _ rfl c w.heap.size T L rfl HR.out ?_ ?_)
    · intro h0
      have HE := Lib.hid (HD.out.congr (ul_end h0))
      clear h0
      go_wp2
      go_end0
      exact ⟨rfl, HE.out, HG.out⟩
    · intro x y w2 hL hr2 hlt hg2 hs2 hen
      have hT := HR.out.sub hL
      have hbd := HR.out.dots.bd x y hT
      have HR2 := Lib.hid hr2
      have HD2 := Lib.hid (((HD.out.kept hg2 (by simp; omega)).alloc (.cells #[.int .i64 x, .int .i64 y] 71)).alloc (.cells #[] 96))
      have HG2 := Lib.hid (HG.out.andThen hg2 (by intro j hj; cases hj; exact Or.inl (Nat.le_refl _)))
      have HLT := Lib.hid hlt
      have HT := Lib.hid hT
      clear hr2 hlt hL hT hg2
      go_wp2_with (at_mapUpdate; refine dots_add vkey _ rfl _ _ _ 55 96 rfl Tryz.underlying55 b _ rfl HD2.out x y rfl rfl (by omega) ?_; intro w3 hd3 hg3)
      go_frame
      have hga := World.grownBy_alloc w2 (.cells #[.int .i64 x, .int .i64 y] 71) none
      have hgb := World.grownBy_alloc (w2.alloc (.cells #[.int .i64 x, .int .i64 y] 71)) (.cells #[] 96) none
      have hR3 : Rs w3 c w.heap.size T (rS L x y) := ((HR2.out.alloc _).alloc _).kept hg3 (by simp; omega) (by simp; omega)
      have hl3 : w3.rangeLeft c w.heap.size = w2.rangeLeft c w.heap.size := by
        rw [((HR2.out.alloc (.cells #[.int .i64 x, .int .i64 y] 71)).alloc (.cells #[] 96)).left hg3 (by simp; omega) (by simp; omega), (HR2.out.alloc (.cells #[.int .i64 x, .int .i64 y] 71)).left hgb (by simp) (by simp), HR2.out.left hga (by simp) (by simp)]
      have HD3 := Lib.hid (hd3.congr (ul_step HT.out))
      have HG3 := Lib.hid (((HG2.out.andThen hga (by simp)).andThen hgb (by simp)).andThen hg3 (by intro j hj; exact Or.inr (by rw [hj])))
      have HR3 := Lib.hid hR3
      have HL3 := Lib.hid hl3
      clear hd3 hR3 hl3 hga hgb hg3
      go_roundw
      case rel => exact ⟨_, HR3, HD3, HG3⟩
      case measure => rw [HL3.out]; exact HLT.out
end Go.Proofs.YtbabkcjnfdpafaaGreatDoor

/- Chapter 7: the program's vectors: led by steps; the four places beside one. -/
namespace Go.Proofs.YtbabkcjnfdpafaaGreatDoor
open Go.ChangeShapes Go.WideShapes Go.ChangeAt Go.RowKit Go.Maps

theorem infoVec : (Tryz.prog.info? 71).map (fun i => (i.zero, i.size, i.bytes)) = some (some (.agg #[.int .i64 0, .int .i64 0]), 2, 16) := by kernel_rfl
theorem dbl3 (w : World) (o p q : Obj) : Below w.heap.size w (((w.alloc o).alloc p).alloc q) := (((Below.refl _ _).alloc (Nat.le_refl _) _).alloc (by simp) _).alloc (by simp; omega) _
/-- The four steps, the four places beside one. -/
def stp : List (Int × Int) := [(1, 0), (0, 1), (-1, 0), (0, -1)]
def bsd (x y : Int) : List (Int × Int) := stp.map fun s => (x + s.1, y + s.2)
theorem bsd_len (x y : Int) : (bsd x y).length = 4 := rfl
/-- What a place is asked that is led by a vector a number of times, all small. -/
structure Sml (x y u v : Int) : Prop where
  x0 : -1000000 ≤ x
  x1 : x ≤ 1000000
  y0 : -1000000 ≤ y
  y1 : y ≤ 1000000
  u0 : -1000000 ≤ u
  u1 : u ≤ 1000000
  v0 : -1000000 ≤ v
  v1 : v ≤ 1000000
theorem led_any (x y u v : Int) (w : World) (h : Sml x y u v) :
    Calls Tryz.prog 90 #[.agg #[.int .i64 x, .int .i64 y], .agg #[.int .i64 u, .int .i64 v], .int .i64 1] w fun e w' => e = .returned (.agg #[.int .i64 (x + u), .int .i64 (y + v)]) ∧ Below w.heap.size w w' := by
  obtain ⟨x0, x1, y0, y1, a0, a1, b0, b1⟩ := h
  have e1 : IntKind.i64.wrap u = u := IntWalk.i64_in _ (by omega)
  have e2 : IntKind.i64.wrap v = v := IntWalk.i64_in _ (by omega)
  have e3 : IntKind.i64.wrap (x + u) = x + u := IntWalk.i64_in _ (by omega)
  have e4 : IntKind.i64.wrap (y + v) = y + v := IntWalk.i64_in _ (by omega)
  clear x0 x1 y0 y1 a0 a1 b0 b1
  go_enter Tryz.func90, Tryz.ntmps90
  go_wp2
  exact bodyPost_ret (v := .agg #[.int .i64 (x + u), .int .i64 (y + v)]) (by simp [results, Tryz.results90, go_sem]) rfl ⟨rfl, dbl3 _ _ _ _⟩
theorem spiral_dt (w : World) :
    Calls Tryz.prog 108 #[] w fun e w' => (∃ R, e = .returned (.agg #[.slice (some ⟨R, 0, none⟩) 4 4, .int .i64 2, .func (.func 114) #[] #[]]) ∧ w.heap.size ≤ R ∧ R < w'.heap.size ∧ ∀ j u, (prs stp)[j]? = some u → w'.cell? ⟨R, j, none⟩ = some u) ∧ Below w.heap.size w w' := by
  go_enter Tryz.func108, Tryz.ntmps108
  go_wp2
  exact bodyPost_ret (v := .agg #[.slice (some ⟨w.heap.size + 1, 0, none⟩) 4 4, .int .i64 2, .func (.func 114) #[] #[]]) (by simp [results, Tryz.results108, go_sem]) rfl
    ⟨⟨_, rfl, by omega, by simp, fun j u hu => by rw [World.cell?_alloc_at _ _ _ _ (by simp)]; simpa [prs, stp] using hu⟩, ((Below.refl _ _).alloc (Nat.le_refl _) _).alloc (by simp) _⟩
theorem cell_old {W : World} {p : Addr} {v : Value} (h : W.cell? p = some v) (o : Obj) : (W.alloc o).cell? p = some v := by
  rw [World.cell?_alloc_old _ _ _ (Nat.ne_of_lt (World.block_lt_of_cell? _ _ h))]
  exact h
theorem grown_refl (w : World) (row : Option Nat) : w.grownBy w row := ⟨rfl, rfl, rfl, Nat.le_refl _, fun _ _ _ => rfl⟩
theorem grown_tr {a b c : World} {row : Option Nat} (h : a.grownBy b row) (k : b.grownBy c row) : a.grownBy c row := h.andThen k fun _ e => Or.inr e
/-- A place appended to the call's own row of places. -/
theorem app_vec {ops : Array Oper} {rest : List Oper} {o : Oper} {a : Act} {Q : Exit → Act → World → Prop} (base : Nat) (w : World) (hgd : o.guard = none) (s x : Operand)
    (ho : o.op = .call { callee := .builtin .append, args := #[s, x], argTypes := #[80, 80] }) (v : Value) (n : Nat) (xs : List (Int × Int)) (hs : a.eval s = v) (hG : w.ownsRow base 71 2 v n (prs xs)) (hn : xs.length = n) (hB : base ≤ w.heap.size) (p q : Int)
    (hx : a.eval x = .slice (some ⟨w.heap.size, 0, none⟩) 1 1) (hl : n ≤ 100000)
    (h : ∀ v' w', w'.ownsRow base 71 2 v' (n + 1) (prs (xs ++ [(p, q)])) → w.grownBy w' v.ownBlock → wpList Tryz.prog ops Q rest (a.put o.dst v') w') : wpList Tryz.prog ops Q (o :: rest) a (w.alloc (.cells #[.int .i64 p, .int .i64 q] 71)) := by
  obtain ⟨i0, hi0, hz0, hz1, hz2⟩ := info_parts infoVec
  refine wpList_append_own _ hgd s x 80 ho base 71 i0 (.agg #[.int .i64 0, .int .i64 0]) 2 16 Tryz.underlying80 hi0 hz0 hz1 hz2 rfl (by decide) v _ _ hs (hG.alloc _) ⟨w.heap.size, 0, none⟩ 1 1 [.int .i64 p, .int .i64 q] hx rfl ?c1 ?c2 ?c3 ?c4 ?c5 ?_
  case c1 =>
    intro j u hj
    match j, hj with
    | 0, hj => simp at hj; subst hj; simp [Addr.add]
    | 1, hj => simp at hj; subst hj; simp [Addr.add]
  case c2 => intro u hu; simp at hu; rcases hu with rfl | rfl <;> rfl
  case c3 => unfold maxLen; omega
  case c4 => omega
  case c5 => simp; omega
  · intro v' w4 hown' hgrow _
    refine h v' w4 ?_ (grown_tr (World.grownBy_alloc w _ _) hgrow)
    rw [← prs_app]
    exact hown'
set_option maxRecDepth 4000 in
set_option maxHeartbeats 1600000 in
theorem placesBeside_any (x y : Int) (w : World) (x0 : -1000 ≤ x) (x1 : x ≤ 1000) (y0 : -1000 ≤ y) (y1 : y ≤ 1000) :
    Calls Tryz.prog 93 #[.agg #[.int .i64 x, .int .i64 y]] w fun e w' => (∃ A c, e = .returned (.slice A 4 c) ∧ Own w' w.heap.size w'.heap.size A (prs (bsd x y))) ∧ Below w.heap.size w w' := by
  have HL := Lib.hid fun u v W (h : -1 ≤ u ∧ u ≤ 1 ∧ -1 ≤ v ∧ v ≤ 1) => led_any x y u v W ⟨by omega, by omega, by omega, by omega, by omega, by omega, by omega, by omega⟩
  have HT : Hid (∀ k, (h : k < 4) → (bsd x y).take (k + 1) = (bsd x y).take k ++ [(x + (stp[k]'h).1, y + (stp[k]'h).2)]) := Lib.hid fun k h => by
    rw [List.take_succ_eq_append_getElem (by rw [bsd_len]; exact h)]
    congr 2
    simp only [bsd, List.getElem_map]
    rfl
  have HF : Hid ((bsd x y).take 4 = bsd x y) := Lib.hid rfl
  have HN : Hid (∀ k, k ≤ 4 → ((bsd x y).take k).length = k) := Lib.hid fun k h => by rw [List.length_take, bsd_len]; omega
  have HS : Hid (∀ k, (h : k < 4) → -1 ≤ (stp[k]'h).1 ∧ (stp[k]'h).1 ≤ 1 ∧ -1 ≤ (stp[k]'h).2 ∧ (stp[k]'h).2 ≤ 1) := Lib.hid fun k h => by
    match k, h with
    | 0, _ => simp [stp]
    | 1, _ => simp [stp]
    | 2, _ => simp [stp]
    | 3, _ => simp [stp]
  clear x0 x1 y0 y1
  generalize bsd x y = bs at *
  have HFD : ∀ (R : Nat) (W : World), (Instr.field 117 (.agg #[.slice (some ⟨R, 0, none⟩) 4 4, .int .i64 2, .func (.func 114) #[] #[]]) 0).run Tryz.prog W = .ok (.slice (some ⟨R, 0, none⟩) 4 4) W := fun _ _ => by kernel_rfl
  go_enter Tryz.func93, Tryz.ntmps93
  go_wp2_with (go_at_call 108; refine (spiral_dt _).mono ?_; rintro e w1 ⟨⟨R, rfl, hR0, hR1, hc⟩, hb1⟩)
  have hz0 : w.heap.size < (w.alloc (.cells #[.int .i64 x, .int .i64 y] 71)).heap.size := by simp
  have hb0 : Below w.heap.size w (w.alloc (.cells #[.int .i64 x, .int .i64 y] 71)) := (Below.refl _ _).alloc (Nat.le_refl _) _
  have d0 : w1.cell? ⟨w.heap.size, 0, none⟩ = some (.int .i64 x) := (hb1.cell (p := ⟨w.heap.size, 0, none⟩) hz0).trans (by simp [go_sem])
  have d1 : w1.cell? ⟨w.heap.size, 1, none⟩ = some (.int .i64 y) := (hb1.cell (p := ⟨w.heap.size, 1, none⟩) hz0).trans (by simp [go_sem])
  have hB : Below w.heap.size w w1 := hb0.trans (hb1.mono hb0.size)
  have HC := Lib.hid hc
  have HB := Lib.hid hB
  clear hc hB hb1 hb0
  go_loopw [3, 9] (fun v i wr => ∃ k : Nat, k ≤ 4 ∧ i = .int .i64 (k : Int) ∧ Hid (wr.ownsRow w1.heap.size 71 2 v k (prs (bs.take k))) ∧ Hid (Below w1.heap.size w1 wr)) (fun _ i _ => 4 - (intOf i).toNat)
  case atStart => exact ⟨0, by omega, by simp, Lib.hid (by rw [List.take_zero]; exact World.ownsRow_nil _ _ _ _), Lib.hid (Below.refl _ _)⟩
  case round =>
    obtain ⟨k, hk, rfl, hown, hb⟩ := hrel
    have hzz : w.heap.size < w1.heap.size := by have := HB.out.size; omega
    have b0 : wr.cell? ⟨w.heap.size, 0, none⟩ = some (.int .i64 x) := (hb.out.cell (p := ⟨w.heap.size, 0, none⟩) hzz).trans d0
    have b1 : wr.cell? ⟨w.heap.size, 1, none⟩ = some (.int .i64 y) := (hb.out.cell (p := ⟨w.heap.size, 1, none⟩) hzz).trans d1
    by_cases hlt : k < 4
    · have hk4 : (k : Int) < 4 := by omega
      have b0a := fun o => cell_old b0 o
      have b1a := fun o => cell_old b1 o
      have hp := prs_get stp k hlt
      have s0 := (hb.out.cell (p := ⟨R, 2 * k, none⟩) hR1).trans (HC.out _ _ hp.1)
      have s1 := (hb.out.cell (p := ⟨R, 2 * k + 1, none⟩) hR1).trans (HC.out _ _ hp.2)
      rw [Nat.mul_comm 2 k] at s0 s1
      have hs := HS.out k hlt
      have ht := HT.out k hlt
      have hn := HN.out k hk
      generalize stp[k].1 = u at *
      generalize stp[k].2 = v at *
      have HTK := Lib.hid ht
      have HSK := Lib.hid hs
      have HNK := Lib.hid hn
      clear ht hs hn hp
      have hwz : w1.heap.size ≤ wr.heap.size := hb.out.size
      go_wp2_with (first
        | (go_at_call 90; refine (HL.out _ _ _ HSK.out).mono ?_; rintro e w2 ⟨rfl, hb2⟩; have HO2 := Lib.hid (row_below (hown.out.alloc _) hb2 (Nat.le_refl _)); have HB2 := Lib.hid (hb.out.trans (((Below.refl _ _).alloc (Nat.le_refl _) _ |>.trans (hb2.mono (by simp))).mono hwz)))
        | (at_builtin; refine app_vec w1.heap.size _ rfl _ _ rfl _ k (bs.take k) rfl HO2.out HNK.out HB2.out.size _ _ rfl (by omega) ?_; intro v' w4 ho4 hg4))
      have HO4 := Lib.hid ho4
      have HB4 := Lib.hid (HB2.out.grown hg4 HB2.out.size fun g hg => (HO2.out.lt g hg).1)
      clear ho4 hg4
      go_wp2
      go_roundw
      case rel => exact ⟨k + 1, by omega, by go_num, by rw [HTK.out]; exact HO4, HB4⟩
      case measure => simp [intOf]; omega
    · obtain rfl : k = 4 := by omega
      obtain ⟨A, c, rfl⟩ := row_form hown.out
      have HO := Lib.hid (own_of_row hown.out)
      go_wp2
      go_ret
      refine ⟨⟨A, c, rfl, ?_⟩, HB.out.trans (hb.out.mono HB.out.size)⟩
      rw [HF.out] at HO
      exact HO.out.wide HB.out.size (Nat.le_refl _)
end Go.Proofs.YtbabkcjnfdpafaaGreatDoor

/- Chapter 7: what a border and the dots beside others hold while they are gathered; plain facts. -/
namespace Go.Proofs.YtbabkcjnfdpafaaGreatDoor

def tlS (T L : Int → Int → Bool) (x y : Int) : Bool := T x y && !L x y
/-- The border, as far as dots have come, and of the dot at hand the first places. -/
def brF (S L : Int → Int → Bool) (x y : Int) (l : List (Int × Int)) (u v : Int) : Bool := (bS S u v && !L u v) || ((decide (u = x) && decide (v = y)) && l.any fun p => !S p.1 p.2)
theorem bsd_any (x y : Int) (f : Int × Int → Bool) : (bsd x y).any f = (f (x + 1, y) || f (x, y + 1) || f (x - 1, y) || f (x, y - 1)) := by
  simp only [bsd, stp, List.map, List.any_cons, List.any_nil, Bool.or_false, Int.add_zero, Int.add_neg_eq_sub, Bool.or_assoc]
theorem br_start {S : Int → Int → Bool} (u v : Int) : false = (bS S u v && !S u v) := by
  unfold bS
  cases S u v <;> simp
theorem br_in (S L : Int → Int → Bool) (x y u v : Int) : (bS S u v && !L u v) = brF S L x y [] u v := by simp [brF]
theorem br_yes {S L : Int → Int → Bool} {x y : Int} {l : List (Int × Int)} {p : Int × Int} (h : S p.1 p.2 = false) (u v : Int) : aS (brF S L x y l) x y u v = brF S L x y (l ++ [p]) u v := by
  unfold aS brF
  simp only [List.any_append, List.any_cons, List.any_nil, h]
  cases (decide (u = x) && decide (v = y)) <;> simp
theorem br_no {S L : Int → Int → Bool} {x y : Int} {l : List (Int × Int)} {p : Int × Int} (h : S p.1 p.2 = true) (u v : Int) : brF S L x y l u v = brF S L x y (l ++ [p]) u v := by
  unfold brF
  simp only [List.any_append, List.any_cons, List.any_nil, h]
  simp
theorem br_out {S L : Int → Int → Bool} {x y : Int} (hS : S x y = true) (u v : Int) : brF S L x y (bsd x y) u v = (bS S u v && !rS L x y u v) := by
  unfold brF rS
  by_cases e : u = x ∧ v = y
  · obtain ⟨rfl, rfl⟩ := e
    rw [bsd_any]
    unfold bS
    rw [hS]
    simp only [decide_true, Bool.true_and, Bool.and_self, Bool.not_true, Bool.and_false, Bool.not_false, Bool.and_true]
    cases S (u - 1) v <;> cases S (u + 1) v <;> cases S u (v - 1) <;> cases S u (v + 1) <;> simp
  · rw [pick_at e]
    simp
theorem br_end {S L : Int → Int → Bool} (h : ∀ x y, L x y = false) (u v : Int) : (bS S u v && !L u v) = bS S u v := by rw [h]; simp
/-- The dots beside others, as far as those have come, and of the one at hand the first places. -/
def nbF (S T L : Int → Int → Bool) (l : List (Int × Int)) (u v : Int) : Bool := nbS S (tlS T L) u v || (S u v && l.any fun p => decide (u = p.1) && decide (v = p.2))
theorem nb_start {S T : Int → Int → Bool} (u v : Int) : false = nbS S (tlS T T) u v := by
  have h : ∀ a b, tlS T T a b = false := fun a b => by unfold tlS; cases T a b <;> rfl
  unfold nbS nS
  simp [h]
theorem nb_in (S T L : Int → Int → Bool) (u v : Int) : nbS S (tlS T L) u v = nbF S T L [] u v := by simp [nbF]
theorem nb_yes {S T L : Int → Int → Bool} {l : List (Int × Int)} {p : Int × Int} (h : S p.1 p.2 = true) (u v : Int) : aS (nbF S T L l) p.1 p.2 u v = nbF S T L (l ++ [p]) u v := by
  unfold aS nbF
  simp only [List.any_append, List.any_cons, List.any_nil, Bool.or_false]
  by_cases e : u = p.1 ∧ v = p.2
  · rw [e.1, e.2, h]
    simp
  · rw [pick_at e]
    simp
theorem nb_no {S T L : Int → Int → Bool} {l : List (Int × Int)} {p : Int × Int} (h : S p.1 p.2 = false) (u v : Int) : nbF S T L l u v = nbF S T L (l ++ [p]) u v := by
  unfold nbF
  simp only [List.any_append, List.any_cons, List.any_nil, Bool.or_false]
  by_cases e : u = p.1 ∧ v = p.2
  · rw [e.1, e.2, h]
    simp
  · rw [pick_at e]
    simp
theorem nb_out {S T L : Int → Int → Bool} {x y : Int} (hT : T x y = true) (u v : Int) : nbF S T L (bsd x y) u v = nbS S (tlS T (rS L x y)) u v := by
  have h : ∀ a b, tlS T (rS L x y) a b = (tlS T L a b || (decide (a = x) && decide (b = y))) := fun a b => by
    unfold tlS rS
    by_cases e : a = x ∧ b = y
    · obtain ⟨rfl, rfl⟩ := e
      simp [hT]
    · rw [pick_at e]
      simp
  unfold nbF nbS nS
  rw [bsd_any, h, h, h, h]
  have e1 : (decide (u = x + 1) && decide (v = y)) = (decide (u - 1 = x) && decide (v = y)) := by
    rw [show decide (u = x + 1) = decide (u - 1 = x) from decide_eq_decide.2 (by omega)]
  have e2 : (decide (u = x) && decide (v = y + 1)) = (decide (u = x) && decide (v - 1 = y)) := by
    rw [show decide (v = y + 1) = decide (v - 1 = y) from decide_eq_decide.2 (by omega)]
  have e3 : (decide (u = x - 1) && decide (v = y)) = (decide (u + 1 = x) && decide (v = y)) := by
    rw [show decide (u = x - 1) = decide (u + 1 = x) from decide_eq_decide.2 (by omega)]
  have e4 : (decide (u = x) && decide (v = y - 1)) = (decide (u = x) && decide (v + 1 = y)) := by
    rw [show decide (v = y - 1) = decide (v + 1 = y) from decide_eq_decide.2 (by omega)]
  simp only [e1, e2, e3, e4]
  generalize (decide (u - 1 = x) && decide (v = y)) = a1
  generalize (decide (u = x) && decide (v - 1 = y)) = a2
  generalize (decide (u + 1 = x) && decide (v = y)) = a3
  generalize (decide (u = x) && decide (v + 1 = y)) = a4
  cases S u v <;> cases tlS T L (u - 1) v <;> cases tlS T L (u + 1) v <;> cases tlS T L u (v - 1) <;> cases tlS T L u (v + 1) <;> cases a1 <;> cases a2 <;> cases a3 <;> cases a4 <;> rfl
theorem nb_end {S T L : Int → Int → Bool} (h : ∀ x y, L x y = false) (u v : Int) : nbS S (tlS T L) u v = nbS S T u v := by
  have h2 : ∀ a b, tlS T L a b = T a b := fun a b => by unfold tlS; rw [h]; simp
  unfold nbS nS
  rw [h2, h2, h2, h2]
theorem bsd_at (x y : Int) (j : Nat) (h : j < 4) : (bsd x y).take (j + 1) = (bsd x y).take j ++ [((bsd x y)[j]'(by rw [bsd_len]; exact h))] := List.take_succ_eq_append_getElem (by rw [bsd_len]; exact h)
theorem bsd_bds (x y : Int) (j : Nat) (h : j < 4) : x - 1 ≤ ((bsd x y)[j]'(by rw [bsd_len]; exact h)).1 ∧ ((bsd x y)[j]'(by rw [bsd_len]; exact h)).1 ≤ x + 1 ∧ y - 1 ≤ ((bsd x y)[j]'(by rw [bsd_len]; exact h)).2 ∧ ((bsd x y)[j]'(by rw [bsd_len]; exact h)).2 ≤ y + 1 := by
  match j, h with
  | 0, _ => simp [bsd, stp]; omega
  | 1, _ => simp [bsd, stp]; omega
  | 2, _ => simp [bsd, stp]; omega
  | 3, _ => simp [bsd, stp]; omega
end Go.Proofs.YtbabkcjnfdpafaaGreatDoor

/- Chapter 7: the program's sets of dots moved by whatever function moves places apart. -/
namespace Go.Proofs.YtbabkcjnfdpafaaGreatDoor
open Go.ChangeShapes Go.WideShapes Go.ChangeAt Go.RowKit Go.Maps

/-- What is moved already, by the places to which dots are moved: g tells whence. -/
def mvL (S L : Int → Int → Bool) (g1 g2 : Int → Int → Int) (u v : Int) : Bool := S (g1 u v) (g2 u v) && !L (g1 u v) (g2 u v)
theorem mv_start {S : Int → Int → Bool} {g1 g2 : Int → Int → Int} (u v : Int) : false = mvL S S g1 g2 u v := by
  unfold mvL
  cases S (g1 u v) (g2 u v) <;> rfl
theorem mv_end {S L : Int → Int → Bool} {g1 g2 : Int → Int → Int} (h : ∀ x y, L x y = false) (u v : Int) : mvL S L g1 g2 u v = S (g1 u v) (g2 u v) := by
  unfold mvL
  rw [h]
  simp
theorem mv_step {S L : Int → Int → Bool} {g1 g2 : Int → Int → Int} {x y p q : Int} (hS : S x y = true) (hg : ∀ u v, (u = p ∧ v = q) ↔ (g1 u v = x ∧ g2 u v = y)) (u v : Int) : aS (mvL S L g1 g2) p q u v = mvL S (rS L x y) g1 g2 u v := by
  unfold aS mvL rS
  by_cases e : u = p ∧ v = q
  · obtain ⟨a, b⟩ := (hg u v).1 e
    obtain ⟨rfl, rfl⟩ := e
    rw [a, b, hS]
    simp
  · rw [pick_at e, pick_at (fun e2 => e ((hg u v).2 e2))]
    simp
/-- A function value that moves the dots of S by f, in worlds that have grown from w. -/
structure Mv (F K : Nat) (S : Int → Int → Bool) (f1 f2 g1 g2 : Int → Int → Int) (w : World) : Prop where
  cf : ∀ (args : Array Value) (W : World), (callFunc F args).run Tryz.prog W = .ok (.enter F args) W
  mv : ∀ x y W, S x y = true → w.grownBy W none → Calls Tryz.prog F #[.agg #[.int .i64 x, .int .i64 y], .pointer (some ⟨K, 0, none⟩)] W fun e w' => e = .returned (.agg #[.int .i64 (f1 x y), .int .i64 (f2 x y)]) ∧ Below W.heap.size W w'
  inv : ∀ x y, S x y = true → ∀ u v, (u = f1 x y ∧ v = f2 x y) ↔ (g1 u v = x ∧ g2 u v = y)
  bd : ∀ x y, S x y = true → 0 ≤ f1 x y ∧ f1 x y < 100 ∧ 0 ≤ f2 x y ∧ f2 x y < 100
set_option maxRecDepth 4000 in
set_option maxHeartbeats 1600000 in
theorem moved_any (b F K : Nat) (S : Int → Int → Bool) (f1 f2 g1 g2 : Int → Int → Int) (w : World) (h : Ds w b S) (hm : Mv F K S f1 f2 g1 g2 w) :
    Calls Tryz.prog 88 #[.map (some b), .func (.func F) #[] #[.pointer (some ⟨K, 0, none⟩)]] w fun e w' => (∃ c, e = .returned (.map (some c)) ∧ w.heap.size ≤ c ∧ Ds w' c (fun u v => S (g1 u v) (g2 u v))) ∧ Below w.heap.size w w' := by
  have hmm := @run_makeMap Tryz.prog
  have hbl := h.lt
  have HBD := Lib.hid h.bd
  have HM := Lib.hid hm
  have hcf := hm.cf
  have HH := Lib.hid h
  clear h hm
  go_enter Tryz.func88, Tryz.ntmps88
  go_wp2_with (at_range; refine dots_range vkey _ rfl _ 55 96 rfl Tryz.underlying55 b S rfl (HH.out.alloc _) ?_; intro w0 hr0 hg0 hs0)
  go_frame
  have er : (w.alloc (.map #[] 0)).heap.size = w.heap.size + 1 := by simp
  rw [er] at hr0 hs0
  simp only [er]
  have HR0 := Lib.hid hr0
  have HD0 := Lib.hid (((Dots.made (P := Tryz.prog) (k := 71) w).kept hg0 (by simp)).congr (mv_start (S := S) (g1 := g1) (g2 := g2)))
  have HB0 := Lib.hid (((Below.refl w.heap.size w).alloc (Nat.le_refl _) (.map #[] 0)).grown hg0 (by simp) (by simp))
  clear hr0 hg0 hs0 er HH
  go_loopw [6] (fun _ wr => ∃ L, Hid (Rs wr b (w.heap.size + 1) S L) ∧ Hid (Ds wr w.heap.size (mvL S L g1 g2)) ∧ Hid (Below w.heap.size w wr)) (fun _ wr => wr.rangeLeft b (w.heap.size + 1))
  case atStart => exact ⟨S, HR0, HD0, HB0⟩
  case round =>
    obtain ⟨L, HR, HD, HB⟩ := hrel
    go_wp2_with (at_next; refine dots_next vkey _ rfl _ rfl b (w.heap.size + 1) S L rfl HR.out ?_ ?_)
    · intro h0
      have HE := Lib.hid (HD.out.congr (mv_end h0))
      clear h0
      go_wp2
      go_ret
      exact ⟨⟨_, rfl, Nat.le_refl _, HE.out⟩, HB.out⟩
    · intro x y w2 hL hr2 hlt hg2 hs2 hen
      have hS := HR.out.sub hL
      have HR2 := Lib.hid hr2
      have HD2 := Lib.hid (HD.out.kept hg2 (by simp))
      have HB2 := Lib.hid (HB.out.grown hg2 HB.out.size (by intro j hj; cases hj; omega))
      have HLT := Lib.hid hlt
      have HSS := Lib.hid hS
      have hbx := HBD.out x y hS
      have HIN := Lib.hid fun u v => mv_step (L := L) hS (HM.out.inv x y hS) u v
      have hbf := HM.out.bd x y hS
      clear hr2 hlt hL hS hg2 hs2
      have hz2 : w.heap.size + 1 < w2.heap.size := HR2.out.lt
      have HMV := Lib.hid (HM.out.mv x y _ HSS.out (grown_of_below (HB2.out.alloc HB2.out.size (.cells #[.int .i64 x, .int .i64 y] 71)) (Nat.le_refl _)))
      generalize f1 x y = p at *
      generalize f2 x y = q at *
      go_wp2_with (first
        | (refine (HMV.out).mono ?_; rintro e w3 ⟨rfl, hb3⟩; have HG3 := Lib.hid ((World.grownBy_alloc w2 (.cells #[.int .i64 x, .int .i64 y] 71) none).andThen (grown_of_below hb3 (Nat.le_refl _)) (by simp)); have HD3 := Lib.hid (HD2.out.kept HG3.out (by simp)); clear hb3)
        | (go_at_call 94; refine (add_any _ _ _ _ _ HD3.out hbf).mono ?_; rintro e w6 ⟨rfl, hd6, hg6⟩))
      have HD6 := Lib.hid (hd6.congr HIN.out)
      have HR6 := Lib.hid ((HR2.out.kept HG3.out (by simp) (by simp)).kept hg6 (by simp; omega) (by simp))
      have HL6 := Lib.hid ((HR2.out.kept HG3.out (by simp) (by simp)).left hg6 (by simp; omega) (by simp))
      have HL3 := Lib.hid (HR2.out.left HG3.out (by simp) (by simp))
      have HB6 := Lib.hid ((HB2.out.grown HG3.out HB2.out.size (by simp)).grown hg6 (HB2.out.grown HG3.out HB2.out.size (by simp)).size (by intro j hj; cases hj; exact Nat.le_refl _))
      clear hd6 hg6
      go_wp2
      go_roundw
      case rel => exact ⟨_, HR6, HD6, HB6⟩
      case measure => rw [HL6.out, HL3.out]; exact HLT.out
end Go.Proofs.YtbabkcjnfdpafaaGreatDoor

/- Chapter 7: the border of the program's sets of dots. -/
namespace Go.Proofs.YtbabkcjnfdpafaaGreatDoor
open Go.ChangeShapes Go.WideShapes Go.ChangeAt Go.RowKit Go.Maps

set_option maxRecDepth 4000 in
set_option maxHeartbeats 1600000 in
theorem border_any (b : Nat) (S : Int → Int → Bool) (w : World) (h : Ds w b S) :
    Calls Tryz.prog 62 #[.map (some b)] w fun e w' => (∃ c, e = .returned (.map (some c)) ∧ w.heap.size ≤ c ∧ Ds w' c (bS S)) ∧ Below w.heap.size w w' := by
  have hmm := @run_makeMap Tryz.prog
  have HBD := Lib.hid h.bd
  have hbl := h.lt
  have HP := Lib.hid fun x y W (hs : S x y = true) => placesBeside_any x y W (by have := HBD.out x y hs; omega) (by have := HBD.out x y hs; omega) (by have := HBD.out x y hs; omega) (by have := HBD.out x y hs; omega)
  have HH := Lib.hid h
  clear h
  go_enter Tryz.func62, Tryz.ntmps62
  go_wp2_with (at_range; refine dots_range vkey _ rfl _ 55 96 rfl Tryz.underlying55 b S rfl (HH.out.alloc _) ?_; intro w0 hr0 hg0 hs0)
  go_frame
  have er : (w.alloc (.map #[] 0)).heap.size = w.heap.size + 1 := by simp
  rw [er] at hr0 hs0
  simp only [er]
  have HR0 := Lib.hid hr0
  have HD0 := Lib.hid (((Dots.made (P := Tryz.prog) (k := 71) w).kept hg0 (by simp)).congr (br_start (S := S)))
  have HB0 := Lib.hid (((Below.refl w.heap.size w).alloc (Nat.le_refl _) (.map #[] 0)).grown hg0 (by simp) (by simp))
  clear hr0 hg0 hs0 er HH
  go_loopw [4] (fun _ wr => ∃ L, Hid (Rs wr b (w.heap.size + 1) S L) ∧ Hid (Ds wr w.heap.size (fun u v => bS S u v && !L u v)) ∧ Hid (Below w.heap.size w wr)) (fun _ wr => wr.rangeLeft b (w.heap.size + 1))
  case atStart => exact ⟨S, HR0, HD0, HB0⟩
  case round =>
    obtain ⟨L, HR, HD, HB⟩ := hrel
    go_wp2_with (at_next; refine dots_next vkey _ rfl _ rfl b (w.heap.size + 1) S L rfl HR.out ?_ ?_)
    · intro h0
      have HE := Lib.hid (HD.out.congr (br_end h0))
      clear h0
      go_wp2
      go_ret
      exact ⟨⟨_, rfl, Nat.le_refl _, HE.out⟩, HB.out⟩
    · intro x y w2 hL hr2 hlt hg2 hs2 hen
      have hS := HR.out.sub hL
      have HR2 := Lib.hid hr2
      have HD2 := Lib.hid (HD.out.kept hg2 (by simp))
      have HB2 := Lib.hid (HB.out.grown hg2 HB.out.size (by intro j hj; cases hj; omega))
      have HLT := Lib.hid hlt
      have HSS := Lib.hid hS
      have hbx := HBD.out x y hS
      have HIN := Lib.hid fun u v => br_in S L x y u v
      clear hr2 hlt hL hS hg2 hs2
      have hz2 : w.heap.size + 1 < w2.heap.size := HR2.out.lt
      go_wp2_with (go_at_call 93; refine (HP.out x y _ HSS.out).mono ?_; rintro e w3 ⟨⟨A, c, rfl, ho3⟩, hb3⟩)
      obtain ⟨g, o, rfl, hg0, hg1, hcs⟩ := ho3 (by rw [prs_len, bsd_len]; omega)
      have hza : (w2.alloc (.cells #[.int .i64 x, .int .i64 y] 71)).heap.size = w2.heap.size + 1 := by simp
      rw [hza] at hg0 hb3
      have d0 : w3.cell? ⟨w2.heap.size, 0, none⟩ = some (.int .i64 x) := (hb3.cell (p := ⟨w2.heap.size, 0, none⟩) (Nat.lt_succ_self _)).trans (by simp [go_sem])
      have d1 : w3.cell? ⟨w2.heap.size, 1, none⟩ = some (.int .i64 y) := (hb3.cell (p := ⟨w2.heap.size, 1, none⟩) (Nat.lt_succ_self _)).trans (by simp [go_sem])
      have hg3 : w2.grownBy w3 none := (World.grownBy_alloc w2 _ none).andThen (grown_of_below hb3 (by simp)) (by simp)
      have HR3 := Lib.hid (HR2.out.kept hg3 (by simp) (by simp))
      have HL3 := Lib.hid (HR2.out.left hg3 (by simp) (by simp))
      have HD3 := Lib.hid ((HD2.out.kept hg3 (by simp)).congr HIN.out)
      have HB3 := Lib.hid (HB2.out.grown hg3 (by omega) (by simp))
      have HCS := Lib.hid hcs
      have hz3 : w2.heap.size < w3.heap.size := by omega
      clear ho3 hb3 hcs hg3 hza
      go_loopw [17] (fun i wr => ∃ j : Nat, j ≤ 4 ∧ i = .int .i64 (j : Int) ∧ Hid (Ds wr w.heap.size (brF S L x y ((bsd x y).take j))) ∧ Hid (w3.grownBy wr (some w.heap.size))) (fun i _ => 4 - (intOf i).toNat)
      case atStart => exact ⟨0, by omega, by simp, HD3, Lib.hid (grown_refl _ _)⟩
      case round =>
        obtain ⟨j, hj, rfl, HDj, HGj⟩ := hrel
        have hzr : w3.heap.size ≤ wr.heap.size := HGj.out.size
        by_cases hlt : j < 4
        · have hj4 : (j : Int) < 4 := by omega
          have hp := prs_get (bsd x y) j (by rw [bsd_len]; exact hlt)
          have s0 := HGj.out.cell (HCS.out _ _ hp.1).1 (by simp; omega)
          have s1 := HGj.out.cell (HCS.out _ _ hp.2).1 (by simp; omega)
          have b0 := HGj.out.cell d0 (by simp; omega)
          have b1 := HGj.out.cell d1 (by simp; omega)
          have ht := bsd_at x y j hlt
          have hbb := bsd_bds x y j hlt
          generalize hpq : (bsd x y)[j]'(by rw [bsd_len]; exact hlt) = pq at *
          obtain ⟨p, q⟩ := pq
          simp only at s0 s1 hbb
          rw [Nat.mul_comm 2 j] at s0 s1
          rw [← Nat.add_assoc] at s1
          have HRj := Lib.hid (HR3.out.kept HGj.out (by simp; omega) (by simp))
          have HHAS := Lib.hid fun W (h : Ds W b S) => has_any b S p q W h (wf2_of (by omega) (by omega) (by omega) (by omega))
          have HT := Lib.hid ht
          clear hp ht hpq hbb
          cases hc : S p q with
          | true =>
            rw [hc] at HHAS
            have HE := Lib.hid (HDj.out.congr (br_no (p := (p, q)) hc))
            clear hc
            go_wp2_with (go_at_call 72; refine (HHAS.out _ (HRj.out.dots.alloc _)).mono ?_; rintro e w5 ⟨rfl, hb5⟩)
            have HG5 := Lib.hid ((HGj.out.andThen (World.grownBy_alloc _ (.cells #[.int .i64 p, .int .i64 q] 71) none) (by simp)).andThen (grown_of_below hb5 (Nat.le_refl _)) (by simp))
            have HE5 := Lib.hid ((HE.out.alloc (.cells #[.int .i64 p, .int .i64 q] 71)).below hb5)
            clear hb5
            go_wp2
            go_roundw
            case rel => exact ⟨j + 1, by omega, by go_num, by rw [HT.out]; exact HE5, HG5⟩
            case measure => simp [intOf]; omega
          | false =>
            rw [hc] at HHAS
            have HE := Lib.hid fun u v => br_yes (S := S) (L := L) (x := x) (y := y) (l := (bsd x y).take j) (p := (p, q)) hc u v
            clear hc
            go_wp2_with (first
              | (go_at_call 72; refine (HHAS.out _ (HRj.out.dots.alloc _)).mono ?_; rintro e w5 ⟨rfl, hb5⟩; have HG5 := Lib.hid ((HGj.out.andThen (World.grownBy_alloc _ (.cells #[.int .i64 p, .int .i64 q] 71) none) (by simp)).andThen (grown_of_below hb5 (Nat.le_refl _)) (by simp)); have HD5 := Lib.hid ((HDj.out.alloc (.cells #[.int .i64 p, .int .i64 q] 71)).below hb5); have e0 := HG5.out.cell d0 (by simp; omega); have e1 := HG5.out.cell d1 (by simp; omega); clear hb5)
              | (go_at_call 94; refine (add_any _ _ _ _ _ HD5.out (by omega)).mono ?_; rintro e w6 ⟨rfl, hd6, hg6⟩))
            have HG6 := Lib.hid (grown_tr HG5.out hg6)
            have HD6 := Lib.hid (hd6.congr HE.out)
            clear hd6 hg6
            go_wp2
            go_roundw
            case rel => exact ⟨j + 1, by omega, by go_num, by rw [HT.out]; exact HD6, HG6⟩
            case measure => simp [intOf]; omega
        · obtain rfl : j = 4 := by omega
          have ht4 : (bsd x y).take 4 = bsd x y := rfl
          rw [ht4] at HDj
          have HD7 := Lib.hid (HDj.out.congr (br_out HSS.out))
          have HR7 := Lib.hid (HR3.out.kept HGj.out (by simp; omega) (by simp))
          have HL7 := Lib.hid (HR3.out.left HGj.out (by simp; omega) (by simp))
          have HB7 := Lib.hid (HB3.out.grown HGj.out HB3.out.size (by intro j hj; cases hj; exact Nat.le_refl _))
          go_wp2
          go_roundw
          case rel => exact ⟨_, HR7, HD7, HB7⟩
          case measure => rw [HL7.out, HL3.out]; exact HLT.out
end Go.Proofs.YtbabkcjnfdpafaaGreatDoor

/- Chapter 7: the program's pictures: limits, places. -/
namespace Go.Proofs.YtbabkcjnfdpafaaGreatDoor
open Go.ChangeShapes Go.WideShapes Go.ChangeAt Go.RowKit Go.Maps

/-- A picture of W columns and H rows, its dots in block b. -/
abbrev picV (W H : Int) (b : Nat) : Value := .agg #[.int .i64 W, .int .i64 H, .map (some b)]
def limB (W H : Int) : Bool := betr W 1 24 && betr H 1 24
set_option maxRecDepth 4000 in
theorem limits_any (W H : Int) (b : Nat) (w : World) :
    Calls Tryz.prog 84 #[.agg #[.int .i64 W, .int .i64 H, .map (some b)]] w fun e w' => e = .returned (.bool (limB W H)) ∧ Below w.heap.size w w' := by
  have HL : Hid (limB W H = (betr W 1 24 && betr H 1 24)) := Lib.hid rfl
  rw [HL.out]
  clear HL
  have HB := Lib.hid (show Below w.heap.size w (w.alloc (.cells #[.int .i64 W, .int .i64 H, .map (some b)] 57)) from (Below.refl _ _).alloc (Nat.le_refl _) _)
  cases h1 : betr W 1 24 <;> cases h2 : betr H 1 24
  all_goals
    go_enter Tryz.func84, Tryz.ntmps84
    go_wp2_with (go_at_call 79; refine (rwithin_any _ _ _ _).mono ?_; (first | rw [h1] | rw [h2]); rintro e w1 ⟨rfl, rfl⟩)
    go_ret
    exact ⟨rfl, HB.out⟩

/-- The first n places of a picture of W columns, row by row. -/
def plcs (W n : Nat) : List (Int × Int) := (List.range n).map fun i => (((i % W : Nat) : Int), ((i / W : Nat) : Int))
theorem plcs_len (W n : Nat) : (plcs W n).length = n := by simp [plcs]
theorem plcs_at (W n k : Nat) (h : k < n) : (plcs W n)[k]'(by rw [plcs_len]; exact h) = (((k % W : Nat) : Int), ((k / W : Nat) : Int)) := by simp [plcs]
theorem plcs_succ (W n : Nat) : plcs W (n + 1) = plcs W n ++ [(((n % W : Nat) : Int), ((n / W : Nat) : Int))] := by simp [plcs, List.range_succ]
set_option maxRecDepth 4000 in
set_option maxHeartbeats 1600000 in
theorem places_any (W H n b : Nat) (w : World) (hn : n = W * H) (hW : W ≤ 100) (hH : H ≤ 100) :
    Calls Tryz.prog 71 #[.agg #[.int .i64 (W : Int), .int .i64 (H : Int), .map (some b)]] w fun e w' => (∃ A c base, e = .returned (.slice A n c) ∧ w.heap.size < base ∧ w'.ownsRow base 71 2 (.slice A n c) n (prs (plcs W n))) ∧ Below w.heap.size w w' := by
  have HS : Hid (∀ x y, x < W → plcs W (y * W + x + 1) = plcs W (y * W + x) ++ [((x : Int), (y : Int))]) := Lib.hid fun x y hx => by rw [plcs_succ, place_x hx, place_y hx]
  have HL := Lib.hid fun k => plcs_len W k
  have HM : Hid (∀ y, y ≤ H → y * W ≤ 10000) := Lib.hid fun y hy => Nat.mul_le_mul (n₁ := y) (n₂ := 100) (m₁ := W) (m₂ := 100) (by omega) hW
  have HN : Hid (H * W = n) := Lib.hid (by rw [hn, Nat.mul_comm])
  have HU : Hid (∀ y, (y + 1) * W = y * W + W) := Lib.hid fun y => Nat.succ_mul y W
  clear hn
  generalize plcs W = pl at *
  have hB : Below w.heap.size w (w.alloc (.cells #[.int .i64 (W : Int), .int .i64 (H : Int), .map (some b)] 57)) := (Below.refl _ _).alloc (Nat.le_refl _) _
  have hz : w.heap.size < (w.alloc (.cells #[.int .i64 (W : Int), .int .i64 (H : Int), .map (some b)] 57)).heap.size := by simp
  have c0 : (w.alloc (.cells #[.int .i64 (W : Int), .int .i64 (H : Int), .map (some b)] 57)).cell? ⟨w.heap.size, 0, none⟩ = some (.int .i64 (W : Int)) := by simp [go_sem]
  have c1 : (w.alloc (.cells #[.int .i64 (W : Int), .int .i64 (H : Int), .map (some b)] 57)).cell? ⟨w.heap.size, 1, none⟩ = some (.int .i64 (H : Int)) := by simp [go_sem]
  go_enter Tryz.func71, Tryz.ntmps71
  go_wp2
  generalize w.alloc (.cells #[.int .i64 (W : Int), .int .i64 (H : Int), .map (some b)] 57) = wa at *
  have HB := Lib.hid hB
  clear hB
  go_loopw [3, 8] (fun v i wr => ∃ y : Nat, y ≤ H ∧ i = .int .i64 (y : Int) ∧ Hid (wr.ownsRow wa.heap.size 71 2 v (y * W) (prs (pl (y * W)))) ∧ Hid (Below wa.heap.size wa wr)) (fun _ i _ => H - (intOf i).toNat)
  case atStart => exact ⟨0, by omega, by simp, Lib.hid (by have := HL.out 0; rw [Nat.zero_mul, List.eq_nil_of_length_eq_zero this]; exact World.ownsRow_nil _ _ _ _), Lib.hid (Below.refl _ _)⟩
  case round =>
    obtain ⟨y, hy, rfl, hown, hb⟩ := hrel
    have d0 : wr.cell? ⟨w.heap.size, 0, none⟩ = some (.int .i64 (W : Int)) := (hb.out.cell (p := ⟨w.heap.size, 0, none⟩) hz).trans c0
    by_cases hlt : y < H
    · have hy2 : (y : Int) < (H : Int) := by omega
      go_wp2
      go_loopw [3, 13] (fun v i wr => ∃ x : Nat, x ≤ W ∧ i = .int .i64 (x : Int) ∧ Hid (wr.ownsRow wa.heap.size 71 2 v (y * W + x) (prs (pl (y * W + x)))) ∧ Hid (Below wa.heap.size wa wr)) (fun _ i _ => W - (intOf i).toNat)
      case atStart => exact ⟨0, by omega, by simp, by rw [Nat.add_zero]; exact hown, hb⟩
      case round =>
        obtain ⟨x, hx, rfl, hown1, hb1⟩ := hrel
        by_cases hlx : x < W
        · have hx2 : (x : Int) < (W : Int) := by omega
          have hm : y * W + x ≤ 10100 := by have := HM.out y hy; omega
          have hl := HL.out (y * W + x)
          have hs := HS.out x y hlx
          have hbz := hb1.out.size
          obtain ⟨k, hk⟩ : ∃ k, k = y * W + x := ⟨_, rfl⟩
          rw [← hk] at hm hl hs hown1
          have HK := Lib.hid hk
          clear hk
          have HSK := Lib.hid hs
          have HLK := Lib.hid hl
          clear hs hl
          go_wp2_with (at_builtin; refine app_vec wa.heap.size _ rfl _ _ rfl _ k (pl k) rfl hown1.out HLK.out hbz _ _ rfl (by omega) ?_; intro v' w4 ho4 hg4)
          have HO4 := Lib.hid ho4
          have HB4 := Lib.hid (hb1.out.grown hg4 hbz fun g hg => (hown1.out.lt g hg).1)
          clear ho4 hg4
          go_wp2
          go_roundw
          case rel => exact ⟨x + 1, by omega, by go_num, by rw [show y * W + (x + 1) = k + 1 by have := HK.out; omega, HSK.out]; exact HO4, HB4⟩
          case measure => simp [intOf]; omega
        · obtain rfl : x = W := by omega
          go_wp2
          go_roundw
          case rel => exact ⟨y + 1, by omega, by go_num, by rw [HU.out]; exact hown1, hb1⟩
          case measure => simp [intOf]; omega
    · obtain rfl : y = H := by omega
      obtain ⟨A, c, rfl⟩ := row_form hown.out
      have HO := Lib.hid hown.out
      rw [HN.out] at HO
      go_wp2
      go_ret
      exact ⟨⟨A, c, _, (by first | rfl | (rw [HN.out]; rfl)), hz, HO.out⟩, HB.out.trans (hb.out.mono HB.out.size)⟩
end Go.Proofs.YtbabkcjnfdpafaaGreatDoor

/- Chapter 7: pictures drawn by whatever function tells where dots are. -/
namespace Go.Proofs.YtbabkcjnfdpafaaGreatDoor
open Go.ChangeShapes Go.WideShapes Go.ChangeAt Go.RowKit Go.Maps

/-- The dots among the first k places. -/
def drF (W : Nat) (f : Int → Int → Bool) (k : Nat) (x y : Int) : Bool := decide (0 ≤ x ∧ x < (W : Int) ∧ 0 ≤ y ∧ y.toNat * W + x.toNat < k) && f x y
theorem place_eq {W k a b : Nat} (ha : a < W) : b * W + a = k ↔ a = k % W ∧ b = k / W := by
  constructor
  · rintro rfl
    exact ⟨(place_x ha).symm, (place_y ha).symm⟩
  · rintro ⟨rfl, rfl⟩
    rw [Nat.mul_comm]
    exact Nat.div_add_mod k W
theorem dr_zero (W : Nat) (f : Int → Int → Bool) (x y : Int) : false = drF W f 0 x y := by simp [drF]
theorem dr_iff {W : Nat} {f : Int → Int → Bool} {k : Nat} {x y : Int} : drF W f k x y = true ↔ (0 ≤ x ∧ x < (W : Int) ∧ 0 ≤ y ∧ y.toNat * W + x.toNat < k) ∧ f x y = true := by simp [drF]
theorem dr_more {W : Nat} {k : Nat} (hW : 1 ≤ W) {x y : Int} : (0 ≤ x ∧ x < (W : Int) ∧ 0 ≤ y ∧ y.toNat * W + x.toNat < k + 1) ↔ (0 ≤ x ∧ x < (W : Int) ∧ 0 ≤ y ∧ y.toNat * W + x.toNat < k) ∨ (x = ((k % W : Nat) : Int) ∧ y = ((k / W : Nat) : Int)) := by
  constructor
  · rintro ⟨h1, h2, h3, h4⟩
    obtain ⟨a, rfl⟩ := Int.eq_ofNat_of_zero_le h1
    obtain ⟨b, rfl⟩ := Int.eq_ofNat_of_zero_le h3
    simp only [Int.toNat_natCast] at h4 ⊢
    rcases Nat.lt_or_ge (b * W + a) k with h | h
    · exact .inl ⟨h1, h2, h3, h⟩
    · have e := (place_eq (W := W) (k := k) (a := a) (b := b) (by omega)).1 (by omega)
      exact .inr ⟨by rw [← e.1], by rw [← e.2]⟩
  · rintro (⟨h1, h2, h3, h4⟩ | ⟨rfl, rfl⟩)
    · exact ⟨h1, h2, h3, by omega⟩
    · have hm := Nat.mod_lt k (show 0 < W by omega)
      refine ⟨Int.natCast_nonneg _, Int.ofNat_lt.2 hm, Int.natCast_nonneg _, ?_⟩
      rw [Int.toNat_natCast, Int.toNat_natCast, Nat.mul_comm, Nat.div_add_mod]
      omega
theorem dr_yes {W : Nat} {f : Int → Int → Bool} {k : Nat} (hW : 1 ≤ W) (h : f ((k % W : Nat) : Int) ((k / W : Nat) : Int) = true) (x y : Int) : aS (drF W f k) ((k % W : Nat) : Int) ((k / W : Nat) : Int) x y = drF W f (k + 1) x y := by
  rw [Bool.eq_iff_iff]
  unfold aS
  rw [Bool.or_eq_true, dr_iff, dr_iff, dr_more hW, Bool.and_eq_true, decide_eq_true_eq, decide_eq_true_eq]
  constructor
  · rintro (⟨h1, h2⟩ | ⟨rfl, rfl⟩)
    · exact ⟨.inl h1, h2⟩
    · exact ⟨.inr ⟨rfl, rfl⟩, h⟩
  · rintro ⟨h1 | h1, h2⟩
    · exact .inl ⟨h1, h2⟩
    · exact .inr h1
theorem dr_no {W : Nat} {f : Int → Int → Bool} {k : Nat} (hW : 1 ≤ W) (h : f ((k % W : Nat) : Int) ((k / W : Nat) : Int) = false) (x y : Int) : drF W f k x y = drF W f (k + 1) x y := by
  rw [Bool.eq_iff_iff, dr_iff, dr_iff, dr_more hW]
  constructor
  · rintro ⟨h1, h2⟩
    exact ⟨.inl h1, h2⟩
  · rintro ⟨h1 | ⟨rfl, rfl⟩, h2⟩
    · exact ⟨h1, h2⟩
    · rw [h] at h2; cases h2
theorem dr_all (W H : Nat) (f : Int → Int → Bool) (x y : Int) : drF W f (W * H) x y = (inP W H x y && f x y) := by
  unfold drF inP
  congr 1
  refine decide_eq_decide.2 ⟨?_, ?_⟩
  · rintro ⟨h1, h2, h3, h4⟩
    obtain ⟨a, rfl⟩ := Int.eq_ofNat_of_zero_le h1
    obtain ⟨b, rfl⟩ := Int.eq_ofNat_of_zero_le h3
    simp only [Int.toNat_natCast] at h4
    refine ⟨h1, h2, h3, ?_⟩
    rcases Nat.lt_or_ge b H with h | h
    · omega
    · have := Nat.mul_le_mul_left W h
      rw [Nat.mul_comm W b] at this
      omega
  · rintro ⟨h1, h2, h3, h4⟩
    obtain ⟨a, rfl⟩ := Int.eq_ofNat_of_zero_le h1
    obtain ⟨b, rfl⟩ := Int.eq_ofNat_of_zero_le h3
    simp only [Int.toNat_natCast]
    exact ⟨h1, h2, h3, place_lt (by omega) (by omega)⟩
/-- A function value that tells the dots f of a picture of W columns and H rows, in worlds that have grown from w. -/
structure Dw (F : Nat) (first cap : Array Value) (f : Int → Int → Bool) (W H : Nat) (w : World) : Prop where
  cf : ∀ (args : Array Value) (V : World), (callFunc F args).run Tryz.prog V = .ok (.enter F args) V
  dw : ∀ (x y : Int) (V : World), 0 ≤ x ∧ x < (W : Int) ∧ 0 ≤ y ∧ y < (H : Int) → w.grownBy V none → Calls Tryz.prog F (first ++ (#[.int .i64 x, .int .i64 y] ++ cap)) V fun e w' => e = .returned (.bool (f x y)) ∧ Below V.heap.size V w'
theorem grown_heap {w w' : World} {row : Option Nat} {k : Nat} {o : Obj} (h : w.heap[k]? = some o) (hg : w.grownBy w' row) (hne : some k ≠ row) : w'.heap[k]? = some o :=
  (hg.block k (Array.getElem?_eq_some_iff.1 h).1 hne).trans h
theorem put_farD {W : World} {R o o' : Nat} {v u : Value} (h : W.cell? ⟨R, o', none⟩ = some u) (hne : ¬ o' = o) : (W.setCell ⟨R, o, none⟩ v).cell? ⟨R, o', none⟩ = some u :=
  (World.cell?_setCell_other W _ _ _ (by intro e; simp only [Addr.mk.injEq] at e; exact hne (by omega))).trans h
theorem put3D {W : World} {R : Nat} {a b c : Value} (c0 : W.cell? ⟨R, 0, none⟩ = some a) (c1 : W.cell? ⟨R, 1, none⟩ = some b) (c2 : W.cell? ⟨R, 2, none⟩ = some c) (p q r : Value) :
    (((W.setCell ⟨R, 0, none⟩ p).setCell ⟨R, 1, none⟩ q).setCell ⟨R, 2, none⟩ r).cell? ⟨R, 0, none⟩ = some p ∧ (((W.setCell ⟨R, 0, none⟩ p).setCell ⟨R, 1, none⟩ q).setCell ⟨R, 2, none⟩ r).cell? ⟨R, 1, none⟩ = some q ∧
    (((W.setCell ⟨R, 0, none⟩ p).setCell ⟨R, 1, none⟩ q).setCell ⟨R, 2, none⟩ r).cell? ⟨R, 2, none⟩ = some r :=
  ⟨put_farD (put_farD (World.cell?_setCell_same W _ _ c0) (by omega)) (by omega), put_farD (World.cell?_setCell_same _ _ _ (put_farD c1 (by omega))) (by omega), World.cell?_setCell_same _ _ _ (put_farD (put_farD c2 (by omega)) (by omega))⟩
theorem grown_set3 (w : World) (R : Nat) (p q r : Value) : w.grownBy (((w.setCell ⟨R, 0, none⟩ p).setCell ⟨R, 1, none⟩ q).setCell ⟨R, 2, none⟩ r) (some R) := by
  have one : ∀ (W : World) (o : Nat) (v : Value), W.grownBy (W.setCell ⟨R, o, none⟩ v) (some R) := fun W o v => ⟨rfl, rfl, rfl, by simp [World.setCell], fun k _ hk => Below.heap_setCell _ _ _ _ (fun e => hk (by simp [e]))⟩
  exact grown_tr (grown_tr (one _ _ _) (one _ _ _)) (one _ _ _)
set_option maxRecDepth 8000 in
set_option maxHeartbeats 3200000 in
theorem draw_any (W H n F : Nat) (first cap : Array Value) (f : Int → Int → Bool) (w : World) (hf : Dw F first cap f W H w) (hn : n = W * H) (w0 : 1 ≤ W) (w1 : W ≤ 50) (hH : H ≤ 50) :
    Calls Tryz.prog 80 #[.int .i64 (W : Int), .int .i64 (H : Int), .func (.func F) first cap] w fun e w' => (∃ c, e = .returned (.agg #[.int .i64 (W : Int), .int .i64 (H : Int), .map (some c)]) ∧ w.heap.size ≤ c ∧ Ds w' c (fun x y => inP W H x y && f x y)) ∧ Below w.heap.size w w' := by
  have hmm := @run_makeMap Tryz.prog
  have hcf := hf.cf
  have HF := Lib.hid hf.dw
  have HALL := Lib.hid (show ∀ x y, drF W f n x y = (inP W H x y && f x y) by rw [hn]; exact dr_all W H f)
  have hn2 : n ≤ 2500 := by rw [hn]; exact Nat.mul_le_mul (n₁ := W) (n₂ := 50) (m₁ := H) (m₂ := 50) w1 hH
  have HPL := Lib.hid fun b w => places_any W H n b w hn (by omega) (by omega)
  have HPA : Hid (∀ k, k < n → (prs (plcs W n))[2 * k]? = some (.int .i64 ((k % W : Nat) : Int)) ∧ (prs (plcs W n))[2 * k + 1]? = some (.int .i64 ((k / W : Nat) : Int))) := Lib.hid fun k h => by
    have := prs_get (plcs W n) k (by rw [plcs_len]; exact h)
    rw [plcs_at W n k h] at this
    exact this
  have HPN : Hid (0 < n → 0 < (prs (plcs W n)).length) := Lib.hid fun h => by rw [prs_len, plcs_len]; omega
  have HXY : Hid (∀ k, k < n → 0 ≤ ((k % W : Nat) : Int) ∧ ((k % W : Nat) : Int) < (W : Int) ∧ 0 ≤ ((k / W : Nat) : Int) ∧ ((k / W : Nat) : Int) < (H : Int)) := Lib.hid fun k hk => by
    obtain ⟨h1, h2, _⟩ := place_of (W := W) (H := H) (i := k) (by rw [← hn]; exact hk)
    refine ⟨Int.natCast_nonneg _, Int.ofNat_lt.2 h1, Int.natCast_nonneg _, Int.ofNat_lt.2 h2⟩
  have HYES := Lib.hid fun k (h : f ((k % W : Nat) : Int) ((k / W : Nat) : Int) = true) => dr_yes w0 h
  have HNO := Lib.hid fun k (h : f ((k % W : Nat) : Int) ((k / W : Nat) : Int) = false) => dr_no w0 h
  have HZ := Lib.hid (dr_zero W f)
  clear hf hn
  generalize prs (plcs W n) = pl at *
  go_enter Tryz.func80, Tryz.ntmps80
  go_wp2_with (go_at_call 71; refine (HPL.out _ _).mono ?_; rintro e wp ⟨⟨A, c, base, rfl, hbase, hrow⟩, hbp⟩)
  obtain ⟨W3, hW3⟩ : ∃ W3, W3 = ((w.alloc (.cells #[.int .i64 0, .int .i64 0, .map none] 57)).alloc (.map #[] 0)).alloc (.cells #[.int .i64 (W : Int), .int .i64 (H : Int), .map (some (w.heap.size + 1))] 57) := ⟨_, rfl⟩
  rw [← hW3] at hbp hbase
  have hz3 : W3.heap.size = w.heap.size + 3 := by rw [hW3]; simp
  have k0 : W3.heap[w.heap.size]? = some (.cells #[.int .i64 0, .int .i64 0, .map none] 57) := by
    rw [hW3, (MapKept.heap_alloc _ _).2 _ (by simp; omega), (MapKept.heap_alloc _ _).2 _ (by simp)]
    exact (MapKept.heap_alloc _ _).1
  have k2 : W3.heap[w.heap.size + 2]? = some (.cells #[.int .i64 (W : Int), .int .i64 (H : Int), .map (some (w.heap.size + 1))] 57) := by
    have h := (MapKept.heap_alloc ((w.alloc (.cells #[.int .i64 0, .int .i64 0, .map none] 57)).alloc (.map #[] 0)) (.cells #[.int .i64 (W : Int), .int .i64 (H : Int), .map (some (w.heap.size + 1))] 57)).1
    rw [show ((w.alloc (.cells #[.int .i64 0, .int .i64 0, .map none] 57)).alloc (.map #[] 0)).heap.size = w.heap.size + 2 by simp] at h
    rw [hW3]
    exact h
  have g3 : w.grownBy W3 none := by rw [hW3]; exact ((World.grownBy_alloc w _ none).andThen (World.grownBy_alloc _ _ none) (by simp)).andThen (World.grownBy_alloc _ _ none) (by simp)
  have d3 : Ds W3 (w.heap.size + 1) (fun _ _ => false) := by
    have h := Dots.made (P := Tryz.prog) (k := 71) (w.alloc (.cells #[.int .i64 0, .int .i64 0, .map none] 57))
    rw [show (w.alloc (.cells #[.int .i64 0, .int .i64 0, .map none] 57)).heap.size = w.heap.size + 1 by simp] at h
    rw [hW3]
    exact h.alloc _
  have gp := grown_of_below hbp (Nat.le_refl _)
  have j0 := grown_heap k0 gp (by simp)
  have j2 := grown_heap k2 gp (by simp)
  have HD := Lib.hid ((d3.kept gp (by simp)).congr HZ.out)
  have HG := Lib.hid (g3.andThen gp (by simp))
  have HRW := Lib.hid hrow
  have hzp : w.heap.size + 3 ≤ wp.heap.size := by have := hbp.size; omega
  clear hbp hrow k0 k2 g3 d3 gp hW3 HPL
  go_loopw [17] (fun i wr => ∃ k : Nat, k ≤ n ∧ i = .int .i64 (k : Int) ∧ Hid (Ds wr (w.heap.size + 1) (drF W f k)) ∧ Hid (wp.grownBy wr (some (w.heap.size + 1)))) (fun i _ => n - (intOf i).toNat)
  case atStart => exact ⟨0, by omega, by simp, HD, Lib.hid (grown_refl _ _)⟩
  case round =>
    obtain ⟨k, hk, rfl, HDk, HGk⟩ := hrel
    have hzr : wp.heap.size ≤ wr.heap.size := HGk.out.size
    have i0 := grown_heap j0 HGk.out (by simp)
    have i2 := grown_heap j2 HGk.out (by simp)
    have HGW := Lib.hid (HG.out.andThen HGk.out (by intro j hj; cases hj; exact Or.inl (by omega)))
    by_cases hlt : k < n
    · have hlt2 : (k : Int) < (n : Int) := by omega
      have hp := HPA.out k hlt
      have hrr := HRW.out.kept HGk.out (.inr fun e => by have := (HRW.out.lt _ e).1; omega)
      obtain ⟨g, o, rfl, hg0, hg1, hcs⟩ := own_of_row hrr (HPN.out (by omega))
      have s0 := (hcs _ _ hp.1).1
      have s1 := (hcs _ _ hp.2).1
      rw [Nat.mul_comm 2 k] at s0 s1
      rw [← Nat.add_assoc] at s1
      have hxy := HXY.out k hlt
      have hyes := HYES.out k
      have hno := HNO.out k
      generalize ((k % W : Nat) : Int) = x at *
      generalize ((k / W : Nat) : Int) = y at *
      have HF1 := Lib.hid fun V hg => HF.out x y V hxy hg
      clear hp hcs hrr
      cases hc : f x y with
      | true =>
        have HY := Lib.hid (hyes hc)
        rw [hc] at HF1
        clear hc hyes hno
        go_wp2_with (first
          | ((refine (HF1.out _ (HGW.out.andThen (World.grownBy_alloc _ _ none) (by simp))).mono ?_; rintro e w5 ⟨rfl, hb5⟩; have HG5 := Lib.hid ((World.grownBy_alloc wr (.cells #[.int .i64 x, .int .i64 y] 71) none).andThen (grown_of_below hb5 (Nat.le_refl _)) (by simp)); have HD5 := Lib.hid (HDk.out.kept HG5.out (by simp)); have q2 : w5.cell? ⟨w.heap.size + 2, 2, none⟩ = some (.map (some (w.heap.size + 1))) := Lib.cell_of_heap (grown_heap i2 HG5.out (by simp)) 2; have e0 := (hb5.cell (p := ⟨wr.heap.size, 0, none⟩) (by simp)).trans (show (wr.alloc (.cells #[.int .i64 x, .int .i64 y] 71)).cell? ⟨wr.heap.size, 0, none⟩ = some (.int .i64 x) by simp [go_sem]); have e1 := (hb5.cell (p := ⟨wr.heap.size, 1, none⟩) (by simp)).trans (show (wr.alloc (.cells #[.int .i64 x, .int .i64 y] 71)).cell? ⟨wr.heap.size, 1, none⟩ = some (.int .i64 y) by simp [go_sem]); clear hb5))
          | (go_at_call 94; refine (add_any _ _ _ _ _ HD5.out (by omega)).mono ?_; rintro e w6 ⟨rfl, hd6, hg6⟩))
        have HD6 := Lib.hid (hd6.congr HY.out)
        have HG6 := Lib.hid ((HGk.out.andThen HG5.out (by simp)).andThen hg6 (by intro j hj; exact Or.inr (by rw [hj])))
        clear hd6 hg6
        go_wp2
        go_roundw
        case rel => exact ⟨k + 1, by omega, by go_num, HD6, HG6⟩
        case measure => simp [intOf]; omega
      | false =>
        have HY := Lib.hid (hno hc)
        rw [hc] at HF1
        clear hc hyes hno
        go_wp2_with (refine (HF1.out _ (HGW.out.andThen (World.grownBy_alloc _ _ none) (by simp))).mono ?_; rintro e w5 ⟨rfl, hb5⟩)
        have hg5 := (World.grownBy_alloc wr (.cells #[.int .i64 x, .int .i64 y] 71) none).andThen (grown_of_below hb5 (Nat.le_refl _)) (by simp)
        have HD6 := Lib.hid ((HDk.out.kept hg5 (by simp)).congr HY.out)
        have HG6 := Lib.hid (HGk.out.andThen hg5 (by simp))
        clear hb5 hg5
        go_wp2
        go_roundw
        case rel => exact ⟨k + 1, by omega, by go_num, HD6, HG6⟩
        case measure => simp [intOf]; omega
    · obtain rfl : k = n := by omega
      have a0 := Lib.cell_of_heap i0 0
      have a1 := Lib.cell_of_heap i0 1
      have a2 := Lib.cell_of_heap i0 2
      have f0 := Lib.frozen_of_heap i0 0
      have f1 := Lib.frozen_of_heap i0 1
      have f2 := Lib.frozen_of_heap i0 2
      have b0 := Lib.cell_of_heap i2 0
      have b1 := Lib.cell_of_heap i2 1
      have b2 := Lib.cell_of_heap i2 2
      obtain ⟨e0, e1, e2⟩ := put3D a0 a1 a2 (.int .i64 (W : Int)) (.int .i64 (H : Int)) (.map (some (w.heap.size + 1)))
      have hgE := grown_set3 wr w.heap.size (.int .i64 (W : Int)) (.int .i64 (H : Int)) (.map (some (w.heap.size + 1)))
      have HDE := Lib.hid ((HDk.out.kept hgE (by simp)).congr HALL.out)
      have HBE := Lib.hid ((Below.refl w.heap.size w).grown (HGW.out.andThen hgE (by intro j hj; cases hj; exact Or.inl (Nat.le_refl _))) (Nat.le_refl _) (by simp))
      clear hgE
      go_wp2
      exact bodyPost_ret (v := .agg #[.int .i64 (W : Int), .int .i64 (H : Int), .map (some (w.heap.size + 1))]) (by simp [results, Tryz.results80, go_sem, e0, e1, e2]) rfl ⟨⟨_, rfl, Nat.le_succ _, HDE.out⟩, HBE.out⟩
end Go.Proofs.YtbabkcjnfdpafaaGreatDoor

/- Chapter 7: the program's pictures with other dots, turned, mirrored. -/
namespace Go.Proofs.YtbabkcjnfdpafaaGreatDoor
open Go.ChangeShapes Go.WideShapes Go.ChangeAt Go.RowKit Go.Maps

theorem grown_undrew {V w : World} {row : Option Nat} (h : V.drew.grownBy w row) : V.grownBy w row := ⟨h.os, h.tape, h.output, h.size, h.block⟩
theorem withDots_any (W H : Int) (b c : Nat) (w : World) :
    Calls Tryz.prog 73 #[.agg #[.int .i64 W, .int .i64 H, .map (some b)], .map (some c)] w fun e w' => e = .returned (.agg #[.int .i64 W, .int .i64 H, .map (some c)]) ∧ Below w.heap.size w w' := by
  go_enter Tryz.func73, Tryz.ntmps73
  go_wp2
  exact bodyPost_ret (v := .agg #[.int .i64 W, .int .i64 H, .map (some c)]) (by simp [results, Tryz.results73, go_sem]) rfl ⟨rfl, ((Below.refl _ _).alloc (Nat.le_refl _) _).alloc (by simp) _⟩
theorem turned1_any (x y H : Int) (K : Nat) (w : World) (c1 : w.cell? ⟨K, 1, none⟩ = some (.int .i64 H)) (_ : 0 ≤ x) (_ : x < 100) (y0 : 0 ≤ y) (y1 : y < 100) (h0 : 0 ≤ H) (h1 : H ≤ 100) :
    Calls Tryz.prog 87 #[.agg #[.int .i64 x, .int .i64 y], .pointer (some ⟨K, 0, none⟩)] w fun e w' => e = .returned (.agg #[.int .i64 (H - 1 - y), .int .i64 x]) ∧ Below w.heap.size w w' := by
  have e1 : IntKind.i64.wrap (H - 1) = H - 1 := IntWalk.i64_in _ (by omega)
  have e2 : IntKind.i64.wrap (H - 1 - y) = H - 1 - y := IntWalk.i64_in _ (by omega)
  have c1a := fun o => cell_old c1 o
  have c1b := fun o p => cell_old (cell_old c1 o) p
  go_enter Tryz.func87, Tryz.ntmps87
  go_wp2
  exact bodyPost_ret (v := .agg #[.int .i64 (H - 1 - y), .int .i64 x]) (by simp [results, Tryz.results87, go_sem]) rfl ⟨rfl, ((Below.refl _ _).alloc (Nat.le_refl _) _).alloc (by simp) _⟩
/-- A change of pictures: what a function makes of one. -/
def Chg (F : Nat) (W H : Nat) (S : Int → Int → Bool) (W' H' : Nat) (S' : Int → Int → Bool) : Prop :=
  ∀ (V : World) (b : Nat), Ds V b S → Calls Tryz.prog F #[.agg #[.int .i64 (W : Int), .int .i64 (H : Int), .map (some b)]] V fun e V' => (∃ c, e = .returned (.agg #[.int .i64 (W' : Int), .int .i64 (H' : Int), .map (some c)]) ∧ Ds V' c S') ∧ Below V.heap.size V V'
theorem cf_turned1 : ∀ (args : Array Value) (V : World), (callFunc 87 args).run Tryz.prog V = .ok (.enter 87 args) V := fun _ _ => by kernel_rfl
set_option maxRecDepth 8000 in
set_option maxHeartbeats 1600000 in
theorem turned_chg (W H : Nat) (S : Int → Int → Bool) (hS : Bd W H S) (hW : W ≤ 50) (hH : H ≤ 50) : Chg 56 W H S H W (fun x y => S y ((H : Int) - 1 - x)) := by
  intro w b hd
  have hbl := hd.lt
  obtain ⟨V, hV⟩ : ∃ V, V = (w.alloc (.cells #[.int .i64 (W : Int), .int .i64 (H : Int), .map (some b)] 57)).alloc (.cells #[.int .i64 0, .int .i64 0, .map none] 57) := ⟨_, rfl⟩
  have k0 : V.heap[w.heap.size]? = some (.cells #[.int .i64 (W : Int), .int .i64 (H : Int), .map (some b)] 57) := by
    rw [hV, (MapKept.heap_alloc _ _).2 _ (by simp)]
    exact (MapKept.heap_alloc _ _).1
  have k1 : V.heap[w.heap.size + 1]? = some (.cells #[.int .i64 0, .int .i64 0, .map none] 57) := by
    have h := (MapKept.heap_alloc (w.alloc (.cells #[.int .i64 (W : Int), .int .i64 (H : Int), .map (some b)] 57)) (.cells #[.int .i64 0, .int .i64 0, .map none] 57)).1
    rw [show (w.alloc (.cells #[.int .i64 (W : Int), .int .i64 (H : Int), .map (some b)] 57)).heap.size = w.heap.size + 1 by simp] at h
    rw [hV]
    exact h
  have hgV : w.grownBy V none := by rw [hV]; exact (World.grownBy_alloc w _ none).andThen (World.grownBy_alloc _ _ none) (by simp)
  have HD := Lib.hid (hd.kept hgV (by simp))
  have HMV : Hid (Mv 87 w.heap.size S (fun _ y => (H : Int) - 1 - y) (fun x _ => x) (fun _ v => v) (fun u _ => (H : Int) - 1 - u) V.drew) := Lib.hid
    { cf := cf_turned1
      mv := fun x y W' hs hg => by
        have hb := hS x y hs
        exact turned1_any x y H w.heap.size W' (hg.cell (show V.cell? ⟨w.heap.size, 1, none⟩ = _ from Lib.cell_of_heap k0 1) (by simp)) (by omega) (by omega) (by omega) (by omega) (by omega) (by omega)
      inv := fun x y _ u v => by constructor <;> rintro ⟨rfl, rfl⟩ <;> constructor <;> omega
      bd := fun x y hs => by have hb := hS x y hs; omega }
  have q0 : V.cell? ⟨w.heap.size, 0, none⟩ = some (.int .i64 (W : Int)) := Lib.cell_of_heap k0 0
  have q1 : V.cell? ⟨w.heap.size, 1, none⟩ = some (.int .i64 (H : Int)) := Lib.cell_of_heap k0 1
  have q2 : V.cell? ⟨w.heap.size, 2, none⟩ = some (.map (some b)) := Lib.cell_of_heap k0 2
  have hzV : V.heap.size = w.heap.size + 2 := by rw [hV]; simp
  go_enter Tryz.func56, Tryz.ntmps56
  go_wp2
  rw [← hV]
  clear hV
  have z1 : w.heap.size + 1 < V.drew.heap.size := by show w.heap.size + 1 < V.heap.size; omega
  have z0 : w.heap.size < V.drew.heap.size := by show w.heap.size < V.heap.size; omega
  go_region_held3 (fun w' => w'.cell? ⟨w.heap.size, 0, none⟩ = some (.int .i64 (W : Int)) ∧ w'.cell? ⟨w.heap.size, 1, none⟩ = some (.int .i64 (H : Int)) ∧ w'.cell? ⟨w.heap.size, 2, none⟩ = some (.map (some b)))
    (first | with_reducible exact ⟨t0, t1, t2⟩ | with_reducible exact ⟨(grown_set3 w3 _ _ _ _).cell t0 (by simp), (grown_set3 w3 _ _ _ _).cell t1 (by simp), (grown_set3 w3 _ _ _ _).cell t2 (by simp)⟩ | exact ⟨q0, q1, q2⟩)
    (first | (go_at_call 88; refine (moved_any _ _ _ _ _ _ _ _ _ HD.out.drew HMV.out).mono ?_; rintro e w3 ⟨⟨c, rfl, hc, hd3⟩, hb3⟩; have t0 := (hb3.cell (p := ⟨w.heap.size, 0, none⟩) z0).trans q0; have t1 := (hb3.cell (p := ⟨w.heap.size, 1, none⟩) z0).trans q1; have t2 := (hb3.cell (p := ⟨w.heap.size, 2, none⟩) z0).trans q2; have i3 := (hb3.block (w.heap.size + 1) z1).trans k1; have s0 := Lib.cell_of_heap i3 0; have s1 := Lib.cell_of_heap i3 1; have s2 := Lib.cell_of_heap i3 2; have f0 := Lib.frozen_of_heap i3 0; have f1 := Lib.frozen_of_heap i3 1; have f2 := Lib.frozen_of_heap i3 2; have HDF := Lib.hid hd3; have HGF := Lib.hid (grown_undrew (grown_of_below hb3 (Nat.le_refl _))); have hcV : V.heap.size ≤ c := hc))
  obtain ⟨e0, e1, e2⟩ := put3D s0 s1 s2 (.int .i64 (H : Int)) (.int .i64 (W : Int)) (.map (some c))
  have hgE := grown_set3 w3 (w.heap.size + 1) (.int .i64 (H : Int)) (.int .i64 (W : Int)) (.map (some c))
  have HDE := Lib.hid (HDF.out.kept hgE (by simp; omega))
  have HBE := Lib.hid ((Below.refl w.heap.size w).grown ((hgV.andThen HGF.out (by simp)).andThen hgE (by intro j hj; cases hj; exact Or.inl (by omega))) (Nat.le_refl _) (by simp))
  clear hgE
  go_wp2
  exact bodyPost_ret (v := .agg #[.int .i64 (H : Int), .int .i64 (W : Int), .map (some c)]) (by simp [results, Tryz.results56, go_sem, e0, e1, e2]) rfl ⟨⟨c, rfl, HDE.out⟩, HBE.out⟩
set_option maxRecDepth 8000 in
set_option maxHeartbeats 1600000 in
theorem borderAlone_chg (W H : Nat) (S : Int → Int → Bool) (_ : Bd W H S) (_ : W ≤ 50) (_ : H ≤ 50) : Chg 67 W H S W H (bS S) := by
  intro w b hd
  have hbl := hd.lt
  obtain ⟨V, hV⟩ : ∃ V, V = (w.alloc (.cells #[.int .i64 (W : Int), .int .i64 (H : Int), .map (some b)] 57)).alloc (.cells #[.int .i64 0, .int .i64 0, .map none] 57) := ⟨_, rfl⟩
  have k0 : V.heap[w.heap.size]? = some (.cells #[.int .i64 (W : Int), .int .i64 (H : Int), .map (some b)] 57) := by
    rw [hV, (MapKept.heap_alloc _ _).2 _ (by simp)]
    exact (MapKept.heap_alloc _ _).1
  have k1 : V.heap[w.heap.size + 1]? = some (.cells #[.int .i64 0, .int .i64 0, .map none] 57) := by
    have h := (MapKept.heap_alloc (w.alloc (.cells #[.int .i64 (W : Int), .int .i64 (H : Int), .map (some b)] 57)) (.cells #[.int .i64 0, .int .i64 0, .map none] 57)).1
    rw [show (w.alloc (.cells #[.int .i64 (W : Int), .int .i64 (H : Int), .map (some b)] 57)).heap.size = w.heap.size + 1 by simp] at h
    rw [hV]
    exact h
  have hgV : w.grownBy V none := by rw [hV]; exact (World.grownBy_alloc w _ none).andThen (World.grownBy_alloc _ _ none) (by simp)
  have HD := Lib.hid (hd.kept hgV (by simp))
  have q0 : V.cell? ⟨w.heap.size, 0, none⟩ = some (.int .i64 (W : Int)) := Lib.cell_of_heap k0 0
  have q1 : V.cell? ⟨w.heap.size, 1, none⟩ = some (.int .i64 (H : Int)) := Lib.cell_of_heap k0 1
  have q2 : V.cell? ⟨w.heap.size, 2, none⟩ = some (.map (some b)) := Lib.cell_of_heap k0 2
  have hzV : V.heap.size = w.heap.size + 2 := by rw [hV]; simp
  go_enter Tryz.func67, Tryz.ntmps67
  go_wp2
  rw [← hV]
  clear hV
  have z1 : w.heap.size + 1 < V.drew.heap.size := by show w.heap.size + 1 < V.heap.size; omega
  have z0 : w.heap.size < V.drew.heap.size := by show w.heap.size < V.heap.size; omega
  go_region_held3 (fun w' => w'.cell? ⟨w.heap.size, 0, none⟩ = some (.int .i64 (W : Int)) ∧ w'.cell? ⟨w.heap.size, 1, none⟩ = some (.int .i64 (H : Int)) ∧ w'.cell? ⟨w.heap.size, 2, none⟩ = some (.map (some b)))
    (first | with_reducible exact ⟨t0, t1, t2⟩ | with_reducible exact ⟨(grown_set3 w4 _ _ _ _).cell t0 (by simp), (grown_set3 w4 _ _ _ _).cell t1 (by simp), (grown_set3 w4 _ _ _ _).cell t2 (by simp)⟩ | exact ⟨q0, q1, q2⟩)
    (first
      | (go_at_call 62; refine (border_any _ _ _ HD.out.drew).mono ?_; rintro e w3 ⟨⟨c, rfl, hc, hd3⟩, hb3⟩; have t0 := (hb3.cell (p := ⟨w.heap.size, 0, none⟩) z0).trans q0; have t1 := (hb3.cell (p := ⟨w.heap.size, 1, none⟩) z0).trans q1; have t2 := (hb3.cell (p := ⟨w.heap.size, 2, none⟩) z0).trans q2; have i3 := (hb3.block (w.heap.size + 1) z1).trans k1; have HDF := Lib.hid hd3; have HGF := Lib.hid (grown_undrew (grown_of_below hb3 (Nat.le_refl _))); have hcV : V.heap.size ≤ c := hc; have hz3 : V.heap.size ≤ w3.heap.size := HGF.out.size)
      | (go_at_call 73; refine (withDots_any _ _ _ _ _).mono ?_; rintro e w4 ⟨rfl, hb4⟩; have HDF := Lib.hid (HDF.out.below hb4); have hg4 := grown_of_below hb4 (Nat.le_refl _); have HGF := Lib.hid (HGF.out.andThen hg4 (by simp)); have t0 := hg4.cell t0 (by simp); have t1 := hg4.cell t1 (by simp); have t2 := hg4.cell t2 (by simp); have i3 := grown_heap i3 hg4 (by simp); have s0 := Lib.cell_of_heap i3 0; have s1 := Lib.cell_of_heap i3 1; have s2 := Lib.cell_of_heap i3 2; have f0 := Lib.frozen_of_heap i3 0; have f1 := Lib.frozen_of_heap i3 1; have f2 := Lib.frozen_of_heap i3 2))
  obtain ⟨e0, e1, e2⟩ := put3D s0 s1 s2 (.int .i64 (W : Int)) (.int .i64 (H : Int)) (.map (some c))
  have hgE := grown_set3 w4 (w.heap.size + 1) (.int .i64 (W : Int)) (.int .i64 (H : Int)) (.map (some c))
  have HDE := Lib.hid (HDF.out.kept hgE (by simp; omega))
  have HBE := Lib.hid ((Below.refl w.heap.size w).grown ((hgV.andThen HGF.out (by simp)).andThen hgE (by intro j hj; cases hj; exact Or.inl (by omega))) (Nat.le_refl _) (by simp))
  clear hgE
  go_wp2
  exact bodyPost_ret (v := .agg #[.int .i64 (W : Int), .int .i64 (H : Int), .map (some c)]) (by simp [results, Tryz.results67, go_sem, e0, e1, e2]) rfl ⟨⟨c, rfl, HDE.out⟩, HBE.out⟩
end Go.Proofs.YtbabkcjnfdpafaaGreatDoor
