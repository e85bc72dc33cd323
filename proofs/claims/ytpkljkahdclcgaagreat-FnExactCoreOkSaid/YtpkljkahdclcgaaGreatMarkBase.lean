/- What the streams need of the routes: here the routes' own texts bear it. -/
import Derived.Test.YtpkljkahdclcgaaGreatRouteSpec
import Derived.Laws.EntriesVeiled
import Derived.BigRegion
import Derived.Deep.RegionWith
