/-
  refs says what the walks ask of it.
-/
import Derived.Test.YtmdakplaaehmnaaIs
import Derived.Test.YtmdakplaaehmnaaJh
import Derived.Test.YtmdakplaaehmnaaJk
import Derived.Test.YtmdakplaaehmnaaJl
namespace Go.Proofs.Ytmdakplaaehmnaa
open Go.RowKit

theorem refsSays : RefsSays where
  check := fun A n c l w h => check_any A n c l w h.1 (fun x hx => by have := h.2.2.2 x hx; omega) (by have := h.2.2.1; omega)
  add := fun A n c l S w h hS => add_any A n c l S w h.1 (fun x hx => by have := h.2.2.2 x hx; omega) (by have := h.2.2.1; omega) (by omega)
  drop := fun A n c l d w h => drop_any A n c l d w h.1 (fun x hx => by have := h.2.2.2 x hx; omega) (by have := h.2.2.1; omega)
  get := fun A n c l d w h => get_any A n c l d w h.1 (fun x hx => by have := h.2.2.2 x hx; omega) (by have := h.2.2.1; omega)
  total := fun A n c l w h => total_any A n c l w h.1 (fun x hx => by have := h.2.2.2 x hx; omega) (by have := h.2.2.1; omega)
  same := fun A A' n n' c c' l l' w h h' => same_any A A' n n' c c' l l' w h.1 h'.1 (by have := h.2.2.1; omega) (by have := h'.2.2.1; omega)

end Go.Proofs.Ytmdakplaaehmnaa
