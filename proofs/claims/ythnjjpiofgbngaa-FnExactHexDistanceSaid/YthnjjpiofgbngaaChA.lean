/- Channels in one goroutine inside a region: a send into a buffer with room; a select of one receive with a default. No program in sight. -/
import Derived.Test.YthnjjpiofgbngaaNum
import Derived.Conc.LoneSelect
namespace Go.Proofs.Ythnjjpiofgbngaa
open Go.RowKit Go.Conc

/-- The operations of a region that are still to come, at the machine's own steps. -/
def OpsTo (P : Program) (ops : Array Oper) (Q : Exit → Act → World → Prop) (l : List Nat) (a : Act) (w : World) : Prop :=
  ∀ (b : Frame) (k : List Item) (cs : List Frame), ∃ e a' w', Q e a' w' ∧ Arrives P (lone (b.at a (.inRegion ops l :: k)) cs w) b k cs e a' w'

section
variable {P : Program} {ops : Array Oper} {Q : Exit → Act → World → Prop} {l : List Nat} {a : Act} {w w' : World} {i : Nat} {o : Oper}

theorem OpsTo.region {id : Nat} (h : OpsTo P ops Q (List.range ops.size) a w) : (Code.region id ops false).wp P Q a w :=
  fun b k cs => let ⟨e, a', w', q, r⟩ := h b k cs; ⟨e, a', w', q, .of_steps (.one step_region) r⟩
theorem OpsTo.done (h : Q .normal a w) : OpsTo P ops Q [] a w := fun _ _ _ => ⟨.normal, a, w, h, .one step_region_end⟩
/-- An operation that yields a value. -/
theorem OpsTo.value {v : Value} (ho : ops[i]? = some o) (hw : Region.wanted o (yielded ops a.tmps) = true) (hr : (execOp a.eval o).run P w = .ok (.value v) w') (h : OpsTo P ops Q l (a.put o.dst v) w') : OpsTo P ops Q (i :: l) a w :=
  fun b k cs => by
    obtain ⟨e, a', w2, hq, harr⟩ := h b k cs
    refine ⟨e, a', w2, hq, .of_steps (.one (step_lone_go ?_)) harr⟩
    rw [stepG_op (P := P) (b := b) (k := k) (cs := cs) (w := w) (rest := l) ho hw]
    have hf := Frame.finish_at b a ops i l k v
    rw [ho] at hf
    rw [← show _ = b.at (a.put o.dst v) (.inRegion ops l :: k) from hf]
    simp [stepG.apply, hr]

theorem comm_of {cases : Array CommCase} {bl : Bool} {sh : CommShape} (b : Frame) (k : List Item) (cs : List Frame) (ho : ops[i]? = some o) (hw : Region.wanted o (yielded ops a.tmps) = true) (hr : (execOp a.eval o).run P w = .ok (.comm cases bl sh) w') :
    ∃ es, stepG P true (G (b.at a (.inRegion ops (i :: l) :: k)) cs) w = .comm (G (b.at a (.inRegion ops (i :: l) :: k)) cs) cases bl sh w' es := by
  have hg := stepG_op (P := P) (b := b) (k := k) (cs := cs) (w := w) (rest := l) ho hw
  rw [G, hg]
  simp only [stepG.apply, Sem.runT_eq, hr, GStep.after]
  exact ⟨_, rfl⟩

/-- A send into a buffer with room. -/
theorem OpsTo.send {c cap s r : Nat} {buf : Array Value} {tm : Bool} {v z : Value} (ho : ops[i]? = some o) (hw : Region.wanted o (yielded ops a.tmps) = true) (hr : (execOp a.eval o).run P w = .ok (.comm #[scase c v z] true .send) w')
    (hc : w'.heap[c]? = some (.chan cap buf false s r tm)) (hroom : buf.size < cap) (h : OpsTo P ops Q l (a.put o.dst undef) (w'.setChan c cap (buf.push v) false (s + 1) r tm)) : OpsTo P ops Q (i :: l) a w :=
  fun b k cs => by
    obtain ⟨e, a', w2, hq, harr⟩ := h b k cs
    obtain ⟨es, hg⟩ := comm_of (l := l) b k cs ho hw hr
    refine ⟨e, a', w2, hq, .of_steps (.one ?_) harr⟩
    have hf := Frame.finish_at b a ops i l k undef
    rw [ho] at hf
    have hs := step_lone_send_room hg hc hroom
    rw [hf] at hs
    exact hs
/-- A select of one receive with a default: the buffer holds something. -/
theorem OpsTo.recv {c cap s r : Nat} {buf : Array Value} {tm closed : Bool} {z : Value} (ho : ops[i]? = some o) (hw : Region.wanted o (yielded ops a.tmps) = true) (hr : (execOp a.eval o).run P w = .ok (.comm #[rcase c z] false .select) w')
    (hc : w'.heap[c]? = some (.chan cap buf closed s r tm)) (hsome : 0 < buf.size) (h : OpsTo P ops Q l (a.put o.dst (.tuple #[goInt 0, .bool true, buf.getD 0 undef])) (w'.setChan c cap (buf.extract 1 buf.size) closed s (r + 1) tm)) : OpsTo P ops Q (i :: l) a w :=
  fun b k cs => by
    obtain ⟨e, a', w2, hq, harr⟩ := h b k cs
    obtain ⟨es, hg⟩ := comm_of (l := l) b k cs ho hw hr
    refine ⟨e, a', w2, hq, .of_steps (.one ?_) harr⟩
    have hf := Frame.finish_at b a ops i l k (.tuple #[goInt 0, .bool true, buf.getD 0 undef])
    rw [ho] at hf
    have hs := step_lone_select_recv_buf hg hc hsome
    rw [hf] at hs
    exact hs
/-- A select of one receive with a default: the channel is open and empty. -/
theorem OpsTo.default_ {c cap s r : Nat} {tm : Bool} {z : Value} (ho : ops[i]? = some o) (hw : Region.wanted o (yielded ops a.tmps) = true) (hr : (execOp a.eval o).run P w = .ok (.comm #[rcase c z] false .select) w')
    (hc : w'.heap[c]? = some (.chan cap #[] false s r tm)) (h : OpsTo P ops Q l (a.put o.dst (.tuple #[goInt (-1), .bool false, z])) w') : OpsTo P ops Q (i :: l) a w :=
  fun b k cs => by
    obtain ⟨e, a', w2, hq, harr⟩ := h b k cs
    obtain ⟨es, hg⟩ := comm_of (l := l) b k cs ho hw hr
    refine ⟨e, a', w2, hq, .of_steps (.one ?_) harr⟩
    have hf := Frame.finish_at b a ops i l k (.tuple #[goInt (-1), .bool false, z])
    rw [ho] at hf
    have hs := step_lone_select_default hg hc
    rw [hf] at hs
    exact hs
theorem OpsTo.val {v : Value} {d : Tmp} (ho : ops[i]? = some o) (hw : Region.wanted o (yielded ops a.tmps) = true) (hd : o.dst = some d) (hr : (execOp a.eval o).run P w = .ok (.value v) w') (h : OpsTo P ops Q l { a with tmps := a.tmps.setIfInBounds d v } w') : OpsTo P ops Q (i :: l) a w :=
  OpsTo.value ho hw hr (by rw [hd]; exact h)
theorem OpsTo.send_ {c cap s r : Nat} {buf : Array Value} {tm : Bool} {v z : Value} (ho : ops[i]? = some o) (hw : Region.wanted o (yielded ops a.tmps) = true) (hd : o.dst = none) (hr : (execOp a.eval o).run P w = .ok (.comm #[scase c v z] true .send) w')
    (hc : w'.heap[c]? = some (.chan cap buf false s r tm)) (hroom : buf.size < cap) (h : OpsTo P ops Q l a (w'.setChan c cap (buf.push v) false (s + 1) r tm)) : OpsTo P ops Q (i :: l) a w :=
  OpsTo.send ho hw hr hc hroom (by rw [hd]; exact h)
theorem OpsTo.recv_ {c cap s r : Nat} {buf : Array Value} {tm closed : Bool} {z : Value} {d : Tmp} (ho : ops[i]? = some o) (hw : Region.wanted o (yielded ops a.tmps) = true) (hd : o.dst = some d) (hr : (execOp a.eval o).run P w = .ok (.comm #[rcase c z] false .select) w')
    (hc : w'.heap[c]? = some (.chan cap buf closed s r tm)) (hsome : 0 < buf.size) (h : OpsTo P ops Q l { a with tmps := a.tmps.setIfInBounds d (.tuple #[goInt 0, .bool true, buf.getD 0 undef]) } (w'.setChan c cap (buf.extract 1 buf.size) closed s (r + 1) tm)) : OpsTo P ops Q (i :: l) a w :=
  OpsTo.recv ho hw hr hc hsome (by rw [hd]; exact h)
theorem OpsTo.dflt_ {c cap s r : Nat} {tm : Bool} {z : Value} {d : Tmp} (ho : ops[i]? = some o) (hw : Region.wanted o (yielded ops a.tmps) = true) (hd : o.dst = some d) (hr : (execOp a.eval o).run P w = .ok (.comm #[rcase c z] false .select) w')
    (hc : w'.heap[c]? = some (.chan cap #[] false s r tm)) (h : OpsTo P ops Q l { a with tmps := a.tmps.setIfInBounds d (.tuple #[goInt (-1), .bool false, z]) } w') : OpsTo P ops Q (i :: l) a w :=
  OpsTo.default_ ho hw hr hc (by rw [hd]; exact h)
end
end Go.Proofs.Ythnjjpiofgbngaa
