/-
  What a laid package-level variable gives: if a listed variable's datum is plain (bools, integers, strings, arrays of such), its cells are the datum's, in order. Conditions: the listed data read as listed when the call begins. Any program.
-/
import Derived.ProofKit
import Derived.LaidMore
import Derived.LaidSub
import Derived.MakeChecks
import Derived.OpenShut
import Derived.Stop.Joined
import Derived.KernelRfl
namespace Go.Proofs.YtgojnpblhfbdpaaGreatDoor
open Go

theorem chunks {α : Type} (c : Nat) : ∀ (n : Nat) (l : List α) (ch : List (List α)), l.length = n * c → ch.length = n → (∀ i, i < n → some ((l.drop (i * c)).take c) = ch[i]?) → l = ch.flatten
  | 0, l, ch, h, hn, _ => by
    have : l = [] := List.eq_nil_of_length_eq_zero (by omega)
    have : ch = [] := List.eq_nil_of_length_eq_zero hn
    subst_vars; rfl
  | n + 1, l, [], h, hn, _ => by simp at hn
  | n + 1, l, x :: ch, h, hn, hc => by
    have h0 := hc 0 (by omega)
    simp at h0
    have ih := chunks c n (l.drop c) ch (by rw [List.length_drop, h, Nat.succ_mul]; omega) (by simpa using hn) (fun i hi => by
      have := hc (i + 1) (by omega)
      rw [List.getElem?_cons_succ] at this
      rw [← this, List.drop_drop, Nat.succ_mul, Nat.add_comm])
    rw [List.flatten_cons, ← ih, ← h0, List.take_append_drop]

mutual
/-- The cells of a plain datum. -/
def flatD {H : Type} (P : Program) : Nat → TypeId → DataW H → Option (List Value)
  | 0, _, _ => none
  | f + 1, t, d => match P.underlying t, d with
    | some .bool, .lit (.bool b) => some [.bool b]
    | some (.int k), .lit (.int k' n) => if k' = k then some [.int k n] else none
    | some .string, .lit (.string s) => some [.string ⟨s.toArray⟩]
    | some (.array n e), .agg ds => if ds.length = n ∧ P.cellsOf t = n * P.cellsOf e then (flatAll P f e ds).map List.flatten else none
    | _, _ => none
def flatAll {H : Type} (P : Program) : Nat → TypeId → List (DataW H) → Option (List (List Value))
  | 0, _, _ => none
  | _ + 1, _, [] => some []
  | f + 1, e, d :: ds => (flatD P f e d).bind fun x => (flatAll P f e ds).map fun xs => x :: xs
end

theorem flatAll_get {H : Type} {P : Program} : ∀ {f : Nat} {e : TypeId} {ds : List (DataW H)} {xs : List (List Value)}, flatAll P f e ds = some xs → xs.length = ds.length ∧ ∀ (i : Nat) (d : DataW H), ds[i]? = some d → ∃ g x, g < f ∧ flatD P g e d = some x ∧ xs[i]? = some x
  | 0, _, _, _, h => by simp [flatAll] at h
  | f + 1, e, [], xs, h => by simp [flatAll] at h; subst h; exact ⟨rfl, fun i d hd => by simp at hd⟩
  | f + 1, e, d :: ds, xs, h => by
    simp only [flatAll, Option.bind_eq_some_iff, Option.map_eq_some_iff] at h
    obtain ⟨x, hx, ys, hy, rfl⟩ := h
    obtain ⟨hl, hg⟩ := flatAll_get hy
    refine ⟨by simp [hl], fun i d' hd => ?_⟩
    cases i with
    | zero => simp at hd; subst hd; exact ⟨f, x, by omega, hx, rfl⟩
    | succ i => simp at hd; obtain ⟨g, z, h0, h1, h2⟩ := hg i d' hd; exact ⟨g, z, by omega, h1, by simpa using h2⟩

theorem flatD_trod {H : Type} {enc : TypeId × Value → H} {P : Program} {w : World} {base : Nat} {sp : Nat → Bool} {held : Bool} : ∀ (f : Nat) {fuel : Nat} {t : TypeId} {d : DataW H} {cs ys : List Value} {p : List MemPlace},
    flatD P f t d = some ys → DataW.trod enc P w base sp held fuel t cs = some (d, p) → cs = ys := by
  intro f
  induction f using Nat.strongRecOn with
  | _ f ih =>
    intro fuel t d cs ys p h hd
    cases f with
    | zero => simp [flatD] at h
    | succ f =>
      unfold flatD at h
      split at h
      · rename_i b hu
        cases fuel with
        | zero => simp [DataW.trod] at hd
        | succ n =>
          unfold DataW.trod at hd
          rw [hu] at hd
          split at hd <;> simp_all
      · rename_i k k' n hu
        obtain ⟨m, rfl, e, _⟩ := DataW.trod_int hu hd
        simp only [Prod.mk.injEq, DataW.lit.injEq, Lit.int.injEq] at e
        obtain ⟨⟨rfl, rfl⟩, _⟩ := e
        simpa using h
      · rename_i s hu
        obtain ⟨m, rfl, e, _⟩ := DataW.trod_string hu hd
        simp only [Prod.mk.injEq, DataW.lit.injEq, Lit.string.injEq] at e
        obtain ⟨rfl, _⟩ := e
        simpa using h
      · rename_i n e ds hu
        split at h
        · rename_i hn
          obtain ⟨hn, hc⟩ := hn
          simp only [Option.map_eq_some_iff] at h
          obtain ⟨xs, hx, rfl⟩ := h
          obtain ⟨zs, m, _, ez, hl, hz, hel⟩ := DataW.trod_array hu hd
          simp only [Prod.mk.injEq, DataW.agg.injEq] at ez
          obtain ⟨ez, _⟩ := ez
          obtain ⟨hxl, hxg⟩ := flatAll_get hx
          refine chunks (P.cellsOf e) n cs xs (by rw [hl, hc]) (by rw [hxl, hn]) (fun i hi => ?_)
          have hiz : i < zs.length := by omega
          have h1 := hel i hi
          rw [List.getElem?_eq_getElem hiz] at h1
          have hdi : ds[i]? = some zs[i].1 := by
            have := congrArg (fun l => l[i]?) ez
            simpa [hiz] using this
          obtain ⟨g, x, hlt, hg, hxi⟩ := hxg i _ hdi
          rw [hxi]
          congr 1
          exact ih g (by omega) hg (show DataW.trod enc P w base sp held m e _ = some (zs[i].1, zs[i].2) from h1)
        · cases h
      · cases h

/-- A listed variable's reading, out of the whole condition. -/
theorem laidVars_mem {P : Program} {w : World} {n : String} {d : DataW Unit} : ∀ {L : List (String × DataW Unit)} {ps : List MemPlace}, DataW.LaidVars P w L ps → (n, d) ∈ L →
    ∃ g t cs fuel p, P.globalNamed n = some g ∧ (P.globals[g]?).map (·.type) = some t ∧ w.var? P n = some cs ∧ DataW.trod (fun _ => ()) P w 0 (fun _ => true) false fuel t cs.toList = some (d, p)
  | [], _, _, hx => by cases hx
  | (n', d') :: r, ps, h, hx => by
    obtain ⟨g, t, cs, fuel, p, q, e1, e2, e3, e4, hr, rfl⟩ := h
    rcases List.mem_cons.1 hx with e | hx
    · cases e
      exact ⟨g, t, cs, fuel, p, e1, e2, e3, e4⟩
    · exact laidVars_mem hr hx

/-- A LISTED VARIABLE's CELLS: 'g', 't' the variable's number and type, 'cs' the datum's cells. -/
theorem laid_cells {P : Program} {w : World} {L : List (String × DataW Unit)} (h : laidMetH P L w) (n : String) (d : DataW Unit) (g : Nat) (t : TypeId) (f : Nat) (cs : List Value) (hx : L.find? (fun x => x.1 == n) = some (n, d))
    (hp : d.handleName?.isNone = true) (hg : P.globalNamed n = some g) (ht : (P.globals[g]?).map (·.type) = some t) (hf : flatD P f t d = some cs) (i : Nat) : w.cell? ⟨g, i, none⟩ = cs[i]? := by
  obtain ⟨ps, hl, _⟩ := (laidMetH_iff.1 h).1
  obtain ⟨g', t', cs', fuel, p, e1, e2, e3, e4⟩ := laidVars_mem hl (List.mem_filter.2 ⟨List.mem_of_find?_eq_some hx, hp⟩)
  obtain rfl := Option.some.inj (hg.symm.trans e1)
  obtain rfl := Option.some.inj (ht.symm.trans e2)
  rw [World.var?_cell e1 e3, ← flatD_trod f hf e4]
  simp
end Go.Proofs.YtgojnpblhfbdpaaGreatDoor
